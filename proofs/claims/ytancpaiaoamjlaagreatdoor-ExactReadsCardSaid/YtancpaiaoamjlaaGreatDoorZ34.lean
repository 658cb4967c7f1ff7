/- What the proof rests on, part 34. -/
import Derived.Test.YtancpaiaoamjlaaGreatDoorZ33
import Derived.Test.YtancpaiaoamjlaaGreatDoorZ31
import Derived.Test.YtancpaiaoamjlaaGreatDoorZ27
import Derived.Test.YtancpaiaoamjlaaGreatDoorZ32
import Derived.Test.YtancpaiaoamjlaaGreatDoorZ30
import Derived.Test.YtancpaiaoamjlaaGreatDoorZ23
import Derived.Test.YtancpaiaoamjlaaGreatDoorZ06
import Derived.Test.YtancpaiaoamjlaaGreatDoorZ05
import Derived.Test.YtancpaiaoamjlaaGreatDoorZ08
namespace Go.Proofs.YtancpaiaoamjlaaGreatDoor
set_option maxRecDepth 100000
set_option maxHeartbeats 80000000
namespace Rx
open Go.RowKit
noncomputable abbrev aU:Func:=Tryz.f29
def pc0 (fn:Func):Code:=match fn.body with | some (.seq a _)=>a | _=>.skip
def pc1 (fn:Func):Code:=match fn.body with | some (.seq _ (.seq a _))=>a | _=>.skip
def pc2 (fn:Func):Code:=match fn.body with | some (.seq _ (.seq _ (.seq a _)))=>a | _=>.skip
def pc3 (fn:Func):Code:=match fn.body with | some (.seq _ (.seq _ (.seq _ (.seq a _))))=>a | _=>.skip
def pc4 (fn:Func):Code:=match fn.body with | some (.seq _ (.seq _ (.seq _ (.seq _ (.seq (.seq a _) _)))))=>a | _=>.skip
def pcB (fn:Func):Code:=match fn.body with | some (.seq _ (.seq _ (.seq _ (.seq _ (.seq (.seq _ (.block _ (.loop b))) _)))))=>b | _=>.skip
def pcR (fn:Func):Code:=match fn.body with | some (.seq _ (.seq _ (.seq _ (.seq _ (.seq _ r)))))=>r | _=>.skip
theorem Xy:aU.body=some ((pc0 aU).seq ((pc1 aU).seq ((pc2 aU).seq ((pc3 aU).seq (((pc4 aU).seq (.block 0 (.loop (pcB aU)))).seq (pcR aU)))))):=by kernel_rfl
def atJ (s:List UInt8) (j:Nat):Nat:=if j≤ak s then s.length else ak s
def sgJ (s:List UInt8) (j:Nat):UInt8:=if j≤ak s then 0 else s.getD (ak s) 48
noncomputable def paB (l s:List UInt8) (j:Nat):Nat→Rat:=bet [((enc l:Nat):Rat),((enc s:Nat):Rat),((s.length:Int):Rat),((atJ s j:Int):Rat),(((sgJ s j).toNat:Int):Rat),((j:Int):Rat),(((s.getD j 48).toNat:Int):Rat),(((j+1:Nat):Int):Rat),(((l.getD 0 48).toNat:Int):Rat),(((ak s+1:Nat):Int):Rat),((enc (s.take (ak s)):Nat):Rat),((enc (s.drop (ak s+1)):Nat):Rat),((dv (s.take (ak s)):Int):Rat),((dv (s.drop (ak s+1)):Int):Rat),(((10 ^ (j - (ak s+1)):Nat):Int):Rat)]
def wJ (e m:Bool):Txt:={ emp:=[(.v 0,e)],idx:=if e then [] else [(.v 0,.c 0,.v 8)],eqn:=[(.v 8,.c 45,m)],lo:=if !e && m then [(.v 0,.c 1,.v 1)] else [],len:=[(if !e && m then .v 1 else .v 0,.v 2)] }
def paT (more:Bool):Ari:={ gt:=[(.v 2,.v 5,more)] }
def paX (more z0 a b:Bool):Txt:={ len:=[(.v 1,.v 2)],idx:=if more then [(.v 1,.v 5,.v 6)] else [],eqn:=[(.v 4,.c 0,z0),(.v 6,.c 47,a),(.v 6,.c 46,b)] }
def paL (more:Bool):List (RE×RE):=if more then [(.v 5,.v 7)] else []
def paP (neg:Bool):Pat:=[some (.ot 0),none,some (.ptr 2 0),some (.it .i64 0),some (.bl neg),some (.oi 3),some (.o8 4),some (.oi 5)] ++ List.replicate 114 none
def paK:List (Nat×TypeId×List Cell):=[(2,37,[.bl false,.nils,.bl false,.nils])]
def paF:List Fc:=[.tx 0 (.v 1),.i 3 (.v 3),.i 4 (.v 4),.i 5 (.v 5)]
def Ac (neg:Bool):Nat→Option Nat
 | 0=>some (if neg then 769 else 0) | 2=>some 1 | 3=>some (if neg then 961 else 769) | _=>none
def LP (neg:Bool):List Fc:=if neg then [.tx 769 (.v 1),.i 961 (.v 2)] else [.tx 0 (.v 0),.i 769 (.v 2)]
def pam (up:Bool):Nat→Option Nat
 | 0=>some 0 | 2=>some 2 | 3=>some (if up then 5 else 3) | 4=>some (if up then 1350 else 4) | 5=>some (if up then 1606 else 1222) | _=>none
def pan (up:Bool):List Fc:=if up then [.tx 0 (.v 1),.i 5 (.v 5),.i 1350 (.v 6),.i 1606 (.v 7)] else [.tx 0 (.v 1),.i 3 (.v 3),.i 4 (.v 4),.i 1222 (.v 7)]
theorem uT (x c:UInt8) (n:Int) (h:n=(c.toNat:Int)):((x.toNat:Int) == n)=(x == c):=by
 subst h
 by_cases hx:x=c
 ·subst hx;simp
 ·have:(x.toNat:Int)≠c.toNat:=fun h'=>hx (UInt8.toNat_inj.1 (by omega))
  rw [beq_eq_false_iff_ne.2 hx,beq_eq_false_iff_ne.2 this]
theorem noT {β:Nat→Rat}:({}:Ari).Ok β:=⟨fun p h=>(by cases h),fun p h=>(by cases h),fun p h=>(by cases h)⟩
section
variable (β:Nat→Rat)
theorem Xu (e m:Bool) (okX:(wJ e m).Ok β):mX (SQ β) [.e (.s (.ot 0))] [.tx 0 (.v 0)] 1=true ∧
  okR (S:=SQ β) jk (paP (!e && m)) paK (Ac (!e && m)) (LP (!e && m)) (gG Tryz.prog (SQ β) (HTx β {} (bP β) {} noT (wJ e m) okX) [] [pc0 aU,pc1 aU,pc2 aU,pc3 aU,pc4 aU] ⟨[.e (.s (.ot 0))] ++ List.replicate (aU.ntmps - [SV.e (.s (.ot 0))].length) .und,[],[.tx 0 (.v 0)],1⟩)=true:=by
 cases e <;> cases m <;> exact ⟨by kernel_rfl,by kernel_rfl⟩
theorem FD (neg:Bool):wfB (SQ β) (paP neg) paK paF 6=true:=by cases neg <;> kernel_rfl
theorem Xt {more z0 a b:Bool} (neg:Bool) (h:more=true) (ok:(paT more).Ok β) (okX:(paX more z0 a b).Ok β) (okL:dH β (paL more)) (u:Nat→Value):okR (S:=SQ β) jk (paP neg) paK (pam (z0 && (a || b))) (pan (z0 && (a || b))) (exec Tryz.prog (SQ β) (HTi β {} (bP β) (paT more) ok (paX more z0 a b) okX (paL more) okL) [] 1 (pcB aU) ⟨bD (paP neg) u 0,paK,paF,6⟩)=true:=by
 subst h
 cases neg <;> cases z0 <;> cases a <;> cases b <;> kernel_rfl
end
theorem Y6 {P:Program} {S:Sys} {H:Tests S} {cons:List (Con S)} {c0 c1 c2 c3 c4:Code} {σ σ':State S} (h:gG P S H cons [c0,c1,c2,c3,c4] σ=some (.normal,σ')):∃ σ1 σ2 σ3 σ4,exec P S H cons 1 c0 σ=some (.normal,σ1)∧exec P S H cons 1 c1 σ1=some (.normal,σ2)∧exec P S H cons 1 c2 σ2=some (.normal,σ3)∧exec P S H cons 1 c3 σ3=some (.normal,σ4)∧exec P S H cons 1 c4 σ4=some (.normal,σ'):=by
 have cut:∀ {c:Code} {r:List Code} {σ:State S},gG P S H cons (c :: r) σ=some (.normal,σ')→∃ σ1,exec P S H cons 1 c σ=some (.normal,σ1)∧gG P S H cons r σ1=some (.normal,σ'):=by
  intro c r σ h
  simp only [gG] at h
  split at h
  ·rename_i σ1 h1
   exact ⟨σ1,h1,h⟩
  ·cases h
 obtain ⟨σ1,x0,h⟩:=cut h
 obtain ⟨σ2,x1,h⟩:=cut h
 obtain ⟨σ3,x2,h⟩:=cut h
 obtain ⟨σ4,x3,h⟩:=cut h
 obtain ⟨σ5,x4,h⟩:=cut h
 simp only [gG,Option.some.injEq,Prod.mk.injEq,true_and] at h
 subst h
 exact ⟨σ1,σ2,σ3,σ4,x0,x1,x2,x3,x4⟩
section
variable {l s:List UInt8} {j:Nat}
abbrev ngL (l:List UInt8):Bool:=!l.isEmpty && l.getD 0 48 == 45
abbrev aA (l:List UInt8):List UInt8:=if ngL l then l.drop 1 else l
abbrev paM (s:List UInt8) (j:Nat):Bool:=decide (j<s.length)
abbrev paZ (s:List UInt8) (j:Nat):Bool:=sgJ s j == 0
abbrev paA (s:List UInt8) (j:Nat):Bool:=s.getD j 48 == 47
abbrev oW (s:List UInt8) (j:Nat):Bool:=s.getD j 48 == 46
theorem Xr (hl:l.length≤1000000):(wJ l.isEmpty (l.getD 0 48 == 45)).Ok (paB l (aA l) 0):=by
 have t0:txt ((RE.v 0).ev (paB l (aA l) 0))=l:=bI l
 have t1:txt ((RE.v 1).ev (paB l (aA l) 0))=aA l:=bI _
 refine ⟨fun p hp=>?_,fun p h=>(by cases h),fun p hp=>?_,fun p hp=>?_,fun p h=>(by cases h),fun p hp=>?_,fun p hp x y hx hy=>?_⟩
 ·obtain rfl:=List.mem_singleton.1 hp
  show (txt (RE.ev _ (if ngL l then RE.v 1 else RE.v 0))).length≤9223372036854775807∧(((txt (RE.ev _ (if ngL l then RE.v 1 else RE.v 0))).length:Int):Rat)=(((aA l).length:Int):Rat)
  by_cases h:ngL l=true
  ·rw [if_pos h,t1]
   refine ⟨?_,rfl⟩
   rw [aA,if_pos h,List.length_drop];omega
  ·rw [if_neg h,t0]
   refine ⟨by omega,?_⟩
   rw [aA,if_neg h]
 ·cases hl0:l with
  | nil=>subst hl0;cases hp
  | cons x r =>
   subst hl0
   obtain rfl:=List.mem_singleton.1 hp
   refine ⟨0,x,rfl,?_,rfl⟩
   rw [t0];rfl
 ·by_cases h:ngL l=true
  ·simp only [wJ] at hp
   rw [if_pos h] at hp
   obtain rfl:=List.mem_singleton.1 hp
   refine ⟨1,rfl,?_,?_⟩
   ·rw [t0]
    cases l with
    | nil=>simp at h
    | cons x r=>simp
   ·rw [t0,t1,aA,if_pos h]
  ·simp only [wJ] at hp
   rw [if_neg h] at hp
   cases hp
 ·obtain rfl:=List.mem_singleton.1 hp
  rw [t0]
 ·obtain rfl:=List.mem_singleton.1 hp
  obtain rfl:x=((l.getD 0 48).toNat:Int):=intCast_inj hx
  obtain rfl:y=45:=intCast_inj hy
  exact uT _ 45 45 rfl
theorem FC:(paT (paM s j)).Ok (paB l s j):=by
 refine ⟨fun p h=>(by cases h),fun p h=>(by cases h),fun p hp x y hx hy=>?_⟩
 obtain rfl:=List.mem_singleton.1 hp
 obtain rfl:x=(s.length:Int):=intCast_inj hx
 obtain rfl:y=(j:Int):=intCast_inj hy
 exact decide_eq_decide.2 (by omega)
theorem LJ (hl:s.length≤1000000):(paX (paM s j) (paZ s j) (paA s j) (oW s j)).Ok (paB l s j):=by
 have t1:txt ((RE.v 1).ev (paB l s j))=s:=bI s
 refine ⟨fun p hp=>?_,fun p h=>(by cases h),fun p hp=>?_,fun p h=>(by cases h),fun p h=>(by cases h),fun p h=>(by cases h),?_⟩
 ·obtain rfl:=List.mem_singleton.1 hp
  rw [t1]
  exact ⟨by omega,rfl⟩
 ·by_cases hj:j<s.length
  ·rw [paM,decide_eq_true hj] at hp
   obtain rfl:=List.mem_singleton.1 hp
   refine ⟨j,s[j],rfl,?_,?_⟩
   ·rw [t1]
    exact List.getElem?_eq_getElem hj
   ·show _=(((s.getD j 48).toNat:Int):Rat)
    rw [show s.getD j 48=s[j] by simp [List.getD,List.getElem?_eq_getElem hj]]
  ·rw [paM,decide_eq_false hj] at hp
   cases hp
 ·simp only [paX,List.forall_mem_cons,List.not_mem_nil,false_imp_iff,implies_true,and_true]
  refine ⟨fun x y hx hy=>?_,fun x y hx hy=>?_,fun x y hx hy=>?_⟩
  ·obtain rfl:x=((sgJ s j).toNat:Int):=intCast_inj hx
   obtain rfl:y=0:=intCast_inj hy
   exact uT _ 0 0 rfl
  ·obtain rfl:x=((s.getD j 48).toNat:Int):=intCast_inj hx
   obtain rfl:y=47:=intCast_inj hy
   exact uT _ 47 47 rfl
  ·obtain rfl:x=((s.getD j 48).toNat:Int):=intCast_inj hx
   obtain rfl:y=46:=intCast_inj hy
   exact uT _ 46 46 rfl
theorem LH (hl:s.length≤1000000):dH (paB l s j) (paL (paM s j)):=by
 intro p hp x hx
 by_cases hj:j<s.length
 ·rw [paM,decide_eq_true hj] at hp
  obtain rfl:=List.mem_singleton.1 hp
  obtain rfl:x=(j:Int):=intCast_inj hx
  exact ⟨by omega,by omega,rfl⟩
 ·rw [paM,decide_eq_false hj] at hp
  cases hp
theorem aa1 (hj:j<s.length):(paZ s j && (paA s j || oW s j))=decide (j=ak s):=by
 rcases Nat.lt_trichotomy j (ak s) with h | h | h
 ·obtain ⟨x,h1,h2⟩:=Nw h
  have hx:s.getD j 48=x:=by rw [List.getD,h1];rfl
  have:(paA s j || oW s j)=false:=by rw [paA,oW,hx];exact h2
  rw [this,Bool.and_false,decide_eq_false (by omega)]
 ·obtain ⟨x,h1,h2⟩:=Am (s:=s) (by omega)
  have hx:s.getD j 48=x:=by rw [List.getD,h,h1];rfl
  have h3:(paA s j || oW s j)=true:=by rw [paA,oW,hx];exact h2
  have h4:paZ s j=true:=by rw [paZ,sgJ,if_pos (by omega)];rfl
  rw [h3,h4,decide_eq_true h]
  rfl
 ·obtain ⟨x,h1,h2⟩:=Am (s:=s) (by omega)
  have hx:s.getD (ak s) 48=x:=by rw [List.getD,h1];rfl
  have h4:paZ s j=false:=by
   rw [paZ,sgJ,if_neg (by omega),hx]
   rw [beq_eq_false_iff_ne]
   rintro rfl
   cases h2
  rw [h4,decide_eq_false (by omega)]
  rfl
theorem jr (W:World) {β:Nat→Rat} {ρ:Env} {a:Nat} {e e':RE} (h:Fc.on β ρ (.i a e) W) {β':Nat→Rat} {ρ':Env} {b:Nat} (hu:(ρ' b).u=(ρ a).u) (he:e.ev β=e'.ev β'):Fc.on β' ρ' (.i b e') W:=
 ⟨by rw [hu];exact h.1,by rw [hu];exact h.2.1,by rw [hu,← he];exact h.2.2⟩
theorem Yz {l:List UInt8} (hl:l.length≤1000000) {w:World} (hE:EV w) {Q:Ending→World→Prop}
  (hlast:∀ u ρ a W,State.Says (S:=SQ (paB l (aA l) (aA l).length)) ⟨bD (paP (ngL l)) u 0,paK,paF,6⟩ w ρ a W→Code.rounds Tryz.prog (pcB aU) (Exit.inBlock 0 (Exit.then ((pcR aU).wp Tryz.prog (bodyPost Tryz.prog aU Q)) (bodyPost Tryz.prog aU Q))) 1 a W) :
  Calls Tryz.prog 29 #[.string ⟨l.toArray⟩] w Q:=by
 have hs:(List.map (SV.den (ev [⟨false,0,none,0,0,⟨l.toArray⟩,0,default⟩])) [.e (.s (.ot 0))]).toArray=#[.string ⟨l.toArray⟩]:=rfl
 rw [← hs]
 have hcl:(aA l).length≤1000000:=by
  rw [aA]
  split
  ·rw [List.length_drop];omega
  ·exact hl
 have okT:∀ j,(paT (paM (aA l) j)).Ok (paB l (aA l) j):=fun j=>FC
 have okX:∀ j,(paX (paM (aA l) j) (paZ (aA l) j) (paA (aA l) j) (oW (aA l) j)).Ok (paB l (aA l) j):=fun j=>LJ hcl
 have okL:∀ j,dH (paB l (aA l) j) (paL (paM (aA l) j)):=fun j=>LH hcl
 have hf:∀ f∈[Fc.tx 0 (.v 0)],(SQ (paB l (aA l) 0)).on (ev [⟨false,0,none,0,0,⟨l.toArray⟩,0,default⟩]) f w:=fun f hf=>by
  obtain rfl:=List.mem_singleton.1 hf
  show (⟨l.toArray⟩:ByteArray)=⟨(txt ((enc l:Nat):Rat)).toArray⟩
  rw [bI]
 have no:∀ {β:Nat→Rat},∀ c∈([]:List (Con (SQ β))),c.Ok Tryz.prog (SQ β) EV:=fun c h=>absurd h List.not_mem_nil
 obtain ⟨hok,hst⟩:=Xu (paB l (aA l) 0) _ _ (Xr hl)
 obtain ⟨σ,h1,hp,hb,hn⟩:=uF (fun _ _=>qp) hst
 obtain ⟨σ1,σ2,σ3,σ4,x0,x1,x2,x3,x4⟩:=Y6 h1
 obtain ⟨wf1,-,go0⟩:=dh (w0:=w) (Nat.zero_le _) mixed no (aY hE) (pc0 aU) _ _ _ x0 (GL hok)
 obtain ⟨wf2,-,go1⟩:=dh (w0:=w) (Nat.zero_le _) mixed no (aY hE) (pc1 aU) _ _ _ x1 wf1
 obtain ⟨wf3,-,go2⟩:=dh (w0:=w) (Nat.zero_le _) mixed no (aY hE) (pc2 aU) _ _ _ x2 wf2
 obtain ⟨wf4,-,go3⟩:=dh (w0:=w) (Nat.zero_le _) mixed no (aY hE) (pc3 aU) _ _ _ x3 wf3
 obtain ⟨-,-,go4⟩:=dh (w0:=w) (Nat.zero_le _) mixed no (aY hE) (pc4 aU) _ _ _ x4 wf4
 refine calls_of_wp Tryz.func29 Xy (wp_seq (go0 _ _ w _ (Gj hf) fun ρ1 a1 W1 _ s1=>wp_seq (go1 ρ1 a1 W1 _ s1 fun ρ2 a2 W2 _ s2=>wp_seq (go2 ρ2 a2 W2 _ s2 fun ρ3 a3 W3 _ s3=>wp_seq (go3 ρ3 a3 W3 _ s3 fun ρ4 a4 W4 _ s4=>wp_seq (wp_seq (go4 ρ4 a4 W4 _ s4 fun ρ5 a5 W5 _ s5=>wp_block (wp_loop_rounds ((aA l).length+1) ?_))))))))
 refine yX (Sj:=fun j=>SQ (paB l (aA l) j)) (eqF:=fun _=>jk) (Hj:=fun j=>HTi (paB l (aA l) j) {} (bP _) (paT (paM (aA l) j)) (okT j) (paX (paM (aA l) j) (paZ (aA l) j) (paA (aA l) j) (oW (aA l) j)) (okX j) (paL (paM (aA l) j)) (okL j)) (cj:=fun j=>[]) (E:=EV) (n:=(aA l).length) (fu:=1) (p:=paP (ngL l)) (bx:=fun _=>paK) (fs:=fun _=>paF) (base:=6) (m1:=fun j=>pam (decide (j=ak (aA l)))) (need:=fun j=>pan (decide (j=ak (aA l)))) (w:=w)
  (fun _ _ _ h=>qp h) mixed (fun j=>no) (fun j=>FD _ _) (fun j hj u=>?_) (fun _=>Nat.zero_le _) (aY hE) (fun j hj ρ W h=>?_) hlast (aA l).length 0 (by omega) _ _ _ _ (uN hp hb s5 fun f hm=>?_)
 ·have:=Xt (paB l (aA l) j) (ngL l) (decide_eq_true hj) (okT j) (okX j) (okL j) u
  rw [aa1 hj] at this
  exact this
 ·show ∀ f∈[Fc.tx 0 (.v 1),.i 3 (.v 3),.i 4 (.v 4),.i 5 (.v 5)],Fc.on (paB l (aA l) (j+1)) (dF (pam (decide (j=ak (aA l)))) ρ) f W
  simp only [List.forall_mem_cons,List.not_mem_nil,false_imp_iff,implies_true,and_true]
  by_cases hq:j=ak (aA l)
  ·rw [decide_eq_true hq] at h ⊢
   have g1:=h (Fc.tx 0 (.v 1)) (.head _)
   have g2:=h (Fc.i 5 (.v 5)) (.tail _ (.head _))
   have g3:=h (Fc.i 1350 (.v 6)) (.tail _ (.tail _ (.head _)))
   have g4:=h (Fc.i 1606 (.v 7)) (.tail _ (.tail _ (.tail _ (.head _))))
   refine ⟨g1,jr W g2 rfl ?_,jr W g3 rfl ?_,jr W g4 rfl rfl⟩
   ·show ((j:Int):Rat)=((atJ (aA l) (j+1):Int):Rat)
    rw [atJ,if_neg (by omega),← hq]
   ·show ((((aA l).getD j 48).toNat:Int):Rat)=(((sgJ (aA l) (j+1)).toNat:Int):Rat)
    rw [sgJ,if_neg (by omega),← hq]
  ·rw [decide_eq_false hq] at h ⊢
   have g1:=h (Fc.tx 0 (.v 1)) (.head _)
   have g2:=h (Fc.i 3 (.v 3)) (.tail _ (.head _))
   have g3:=h (Fc.i 4 (.v 4)) (.tail _ (.tail _ (.head _)))
   have g4:=h (Fc.i 1222 (.v 7)) (.tail _ (.tail _ (.tail _ (.head _))))
   refine ⟨g1,jr W g2 rfl ?_,jr W g3 rfl ?_,jr W g4 rfl rfl⟩
   ·show ((atJ (aA l) j:Int):Rat)=((atJ (aA l) (j+1):Int):Rat)
    unfold atJ
    split <;> split <;> first | rfl | omega
   ·show (((sgJ (aA l) j).toNat:Int):Rat)=(((sgJ (aA l) (j+1)).toNat:Int):Rat)
    unfold sgJ
    split <;> split <;> first | rfl | omega
 ·revert f
  show ∀ f∈[Fc.tx 0 (.v 1),.i 3 (.v 3),.i 4 (.v 4),.i 5 (.v 5)],Fc.on (paB l (aA l) 0) (dF (Ac (ngL l)) ρ5) f W5
  simp only [List.forall_mem_cons,List.not_mem_nil,false_imp_iff,implies_true,and_true]
  have at0:((atJ (aA l) 0:Int):Rat)=(((aA l).length:Int):Rat):=by rw [atJ,if_pos (Nat.zero_le _)]
  have sg0:(((sgJ (aA l) 0).toNat:Int):Rat)=((0:Int):Rat):=by rw [sgJ,if_pos (Nat.zero_le _)];rfl
  have z4:Fc.on (paB l (aA l) 0) (dF (Ac (ngL l)) ρ5) (.i 4 (.v 4)) W5:=⟨(by decide:(-9223372036854775808:Int)≤0),(by decide:(0:Int)≤9223372036854775807),sg0.symm⟩
  have z5:Fc.on (paB l (aA l) 0) (dF (Ac (ngL l)) ρ5) (.i 5 (.v 5)) W5:=⟨(by decide:(-9223372036854775808:Int)≤0),(by decide:(0:Int)≤9223372036854775807),rfl⟩
  have hn':∀ f∈LP (ngL l),Fc.on (paB l (aA l) 0) ρ5 f W5:=fun f hf=>s5.fc f (hn f hf)
  by_cases h:ngL l=true
  ·rw [h] at hn' z4 z5 ⊢
   have g1:=hn' (Fc.tx 769 (.v 1)) (.head _)
   have g2:=hn' (Fc.i 961 (.v 2)) (.tail _ (.head _))
   exact ⟨g1,jr W5 g2 rfl at0.symm,z4,z5⟩
  ·have h':ngL l=false:=by simpa using h
   rw [h'] at hn' z4 z5 ⊢
   have g1:(ρ5 0).t=⟨(txt ((enc l:Nat):Rat)).toArray⟩:=hn' (Fc.tx 0 (.v 0)) (.head _)
   have g2:=hn' (Fc.i 769 (.v 2)) (.tail _ (.head _))
   refine ⟨?_,jr W5 g2 rfl at0.symm,z4,z5⟩
   show (ρ5 0).t=⟨(txt ((enc (aA l):Nat):Rat)).toArray⟩
   rw [g1,aA,if_neg h]
end
end Rx
namespace Z4
open Go.RowKit Go.Sort Go.Lib
end Z4
namespace Rx
open Go.RowKit
section
variable (β:Nat→Rat) (h:Hint)
end
section
variable {β:Nat→Rat} {h:Hint} {ρ:Env} {W:World} {db:List Fc}
end
end Rx
namespace Rx
open Go.RowKit
def bT (c:Nat):Ari:={ ar:=[(.rem,.u8,.v 2,.c 4,.c c),(.add,.u8,.c 0,.c 1,.c 1),(.add,.u8,.c 1,.c 1,.c 2),(.add,.u8,.c 2,.c 1,.c 3)] }
def SI (β:Nat→Rat):Sys where
 F:=Nat×RE
 nm:=fun f=>[f.1]
 on:=fun ρ f _=>-9223372036854775808≤(ρ f.1).u∧(ρ f.1).u≤9223372036854775807∧(((ρ f.1).u:Int):Rat)=f.2.ev β
 okC:=fun _=>true
 cg:=fun {ρ ρ' f W} h hf=>by rw [← h f.1 (by simp)];exact hf
 bl:=fun _ h=>h
 st:=fun _ _ _ h=>h
def HI (β:Nat→Rat):Tests (SI β) where
 eq:=fun _ _ _=>none
 ok:=fun h=>(by cases h)
abbrev zA:List SV:=[.e (.a [.oi 0,.it .i64 0,.o8 2])]
end Rx
section
open Go.RowKit Rx
end
namespace Rx
open Go.RowKit
section
variable (β:Nat→Rat) (h:Hint)
def QD:Con (SQ β) where
 fn:=5
 app:=fun db b args=>match args with
  | [.e (.a x)]=>match U1 x with
   | some a=>match Eu db a with
    | some e=>some (.t [.a (aO b),.a (dw (b+2))],[.q b e 4,.r (b+2) e 4])
    | none=>none
   | none=>none
  | _=>none
def cl1:List (Con (SQ β)):=[yj β,QD β]
end
section
variable {β:Nat→Rat} {h:Hint} {ρ:Env} {b:Nat} {f:FuncId} {vals:Array Value} {W:World}
end
end Rx
section
open Go.RowKit Go.Sort
attribute [local go_sem] takes gU gQ gK
def Bl (w:World) (n:Nat) (e:Ending) (w':World):Prop:=∃ s,s*s≤n∧n<(s+1)*(s+1)∧aW w s e w'
theorem Yv (x1:Int) (p1:Option Addr) (l1 q1:Nat) (w:World) (i1:ah w (.int .u64 x1) (.slice p1 l1 q1) 0) :
  Calls Tryz.prog 121 #[.agg #[.int .u64 x1,.slice p1 l1 q1]] w (Bl w 0):=by
 have HZ:=hid (fun (W:World) (h:ah W (.int .u64 x1) (.slice p1 l1 q1) 0)=>dJ _ _ 0 W h)
 have HI:=hid i1
 clear i1
 go_enter Tryz.func121,Tryz.ntmps121
 go_wp2_with fail
 have hS0:=hid (((St.start w).alloc' (w.heap.size) (by simp) 28 [.int .u64 x1,.slice p1 l1 q1]).alloc' (w.heap.size+1) (by simp) 28 [.int .u64 0,.slice none 0 0])
 obtain ⟨W0,hW0⟩:=cu hS0
 rw [hW0] at hS0 ⊢
 clear hW0
 have hi1:=HI.out.below hS0.out.bel
 have hS1:=hid (hS0.out.fact (.m (.int .u64 x1) (.slice p1 l1 q1) (0)) hi1)
 clear hS0 hi1
 refine (HZ.out _ (hS1.out.get (f:=.m (.int .u64 x1) (.slice p1 l1 q1) (0)) 0 rfl)).mono ?_
 rintro e w1 ⟨rfl,hB⟩
 have hS2:=hid (hS1.out.call hB)
 clear hB
 clear hS1
 obtain ⟨⟨cA0,cA1⟩,fA0,fA1⟩:=hS2.out.f2 1 w.heap.size 28 (.int .u64 x1) (.slice p1 l1 q1) rfl
 obtain ⟨⟨cR0,cR1⟩,fR0,fR1⟩:=hS2.out.f2 0 (w.heap.size+1) 28 (.int .u64 0) (.slice none 0 0) rfl
 have hS3:=hid ((((hS2.out).store (b:=⟨w.heap.size+1,28,[.int .u64 0,.slice none 0 0]⟩) 0 0 (.int .u64 x1) rfl rfl).store (b:=⟨w.heap.size+1,28,[.int .u64 x1,.slice none 0 0]⟩) 0 1 (.slice p1 l1 q1) rfl rfl).as [⟨w.heap.size+1,28,[.int .u64 x1,.slice p1 l1 q1]⟩,⟨w.heap.size,28,[.int .u64 x1,.slice p1 l1 q1]⟩] rfl)
 go_wp2_with fail
 clear cA0 cA1 fA0 fA1 cR0 cR1 fR0 fR1
 obtain ⟨⟨zR0,zR1⟩,-⟩:=hS3.out.f2 0 (w.heap.size+1) 28 (.int .u64 x1) (.slice p1 l1 q1) rfl
 exact bodyPost_ret (v:=.agg #[.int .u64 x1,.slice p1 l1 q1]) (by simp [results,Tryz.results121,go_sem,zR0,zR1]) rfl ⟨0,by decide,by decide,_,_,rfl,(hS3.out.get (f:=.m (.int .u64 x1) (.slice p1 l1 q1) (0)) 0 rfl),hS3.out.bel⟩
theorem Yt (n k:Nat) (x1:Int) (p1:Option Addr) (l1 q1:Nat) (w:World) (i1:ah w (.int .u64 x1) (.slice p1 l1 q1) n) (hk:k≤8589934592) (hn:n<B64 ^ k) (h0:0<n) :
  Calls Tryz.prog 121 #[.agg #[.int .u64 x1,.slice p1 l1 q1]] w (Bl w n):=by
 have hz:(n == 0)=false:=by simp;omega
 have HZ:=hid (fun (W:World) (h:ah W (.int .u64 x1) (.slice p1 l1 q1) n)=>hz ▸ dJ _ _ n W h)
 have HB:=hid (fun (W:World) (h:ah W (.int .u64 x1) (.slice p1 l1 q1) n)=>Qh _ _ n k W h (by omega) hn)
 have HO:=hid (fun (b:Nat) (c d:Value) (W:World) (h:ah W (.int .u64 x1) (.slice p1 l1 q1) n) (j:ah W c d b) (hb:0<b)=>wI n b k _ _ c d W h j hb (by omega) hn)
 have HN:=hid (And.intro hn h0)
 have HI:=hid i1
 clear i1 hz h0 hn
 go_enter Tryz.func121,Tryz.ntmps121
 go_wp2_with fail
 have hS0:=hid (((St.start w).alloc' (w.heap.size) (by simp) 28 [.int .u64 x1,.slice p1 l1 q1]).alloc' (w.heap.size+1) (by simp) 28 [.int .u64 0,.slice none 0 0])
 obtain ⟨W0,hW0⟩:=cu hS0
 rw [hW0] at hS0 ⊢
 clear hW0
 have hi1:=HI.out.below hS0.out.bel
 have hS1:=hid (hS0.out.fact (.m (.int .u64 x1) (.slice p1 l1 q1) (n)) hi1)
 clear hS0 hi1
 refine (HZ.out _ (hS1.out.get (f:=.m (.int .u64 x1) (.slice p1 l1 q1) (n)) 0 rfl)).mono ?_
 rintro e w1 ⟨rfl,hB⟩
 have hS2:=hid (hS1.out.call hB)
 clear hB
 clear hS1
 obtain ⟨ne1l,ne1,ne1'⟩:=hS2.out.ne 1 w.heap.size 28 [.int .u64 x1,.slice p1 l1 q1] rfl
 obtain ⟨ne2l,ne2,ne2'⟩:=hS2.out.ne 0 (w.heap.size+1) 28 [.int .u64 0,.slice none 0 0] rfl
 obtain ⟨⟨cA0,cA1⟩,fA0,fA1⟩:=hS2.out.f2 1 w.heap.size 28 (.int .u64 x1) (.slice p1 l1 q1) rfl
 go_wp2_with fail
 clear cA0 cA1 fA0 fA1
 have hS3:=hid ((hS2.out).alloc' (w1.heap.size) (by simp) 28 [.int .u64 2,.slice none 0 0])
 obtain ⟨W1,hW1⟩:=cu hS3
 rw [hW1] at hS3 ⊢
 clear hW1
 refine (HB.out _ (hS3.out.get (f:=.m (.int .u64 x1) (.slice p1 l1 q1) (n)) 0 rfl)).mono ?_
 rintro e w2 ⟨v,rfl,hv,hB⟩
 have hS4:=hid (hS3.out.call hB)
 clear hB
 clear hS3
 have hv1:=hv.2 HN.out.2
 have hvb:v≤64*k:=by
  have h1:2 ^ (v - 1)<2 ^ (64*k):=Nat.lt_of_le_of_lt hv1.2.1 (by have:=HN.out.1;rwa [show B64=2 ^ 64 from by decide,← Nat.pow_mul] at this)
  have:=(Nat.pow_lt_pow_iff_right (by decide:1<2)).1 h1
  omega
 have HV:=hid (And.intro hv1 hvb)
 have hvs:v≤549755813888:=by omega
 clear hv hv1 hvb
 go_wp2_with fail
 rw [show ((v:Int)+1) / 2=(((v+1) / 2:Nat):Int) from by omega]
 refine (KY 1 ((v+1) / 2) 1 _ _ _ (oM _ 1 (by decide)) (by omega) (by omega) (by decide)).mono ?_
 rintro e w3 ⟨c2,d2,rfl,hm2,hB⟩
 have hS5:=hid (hS4.out.call hB)
 clear hB
 clear hS4
 obtain ⟨x2,p2,l2,q2,rfl,rfl⟩:=hm2.shape
 rw [Nat.one_mul] at hm2
 obtain ⟨X0,hX0⟩:∃ X0,2 ^ ((v+1) / 2)=X0:=⟨_,rfl⟩
 rw [hX0] at hm2
 have HX:=hid (show 1≤X0∧X0<B64 ^ (k+1)∧n<(X0+1)*(X0+1) by
  have h1:=HV.out.1.2.2
  have h2:2 ^ v≤X0*X0:=by rw [← hX0,← Nat.pow_add];exact Nat.pow_le_pow_right (by decide) (by omega)
  have h3:1≤X0:=by rw [← hX0];exact Nat.one_le_two_pow
  refine ⟨h3,?_,?_⟩
  ·rw [← hX0,show B64=2 ^ 64 from by decide,← Nat.pow_mul];exact Nat.pow_lt_pow_right (by decide) (by have:=HV.out.2;omega)
  ·have h4:(X0+1)*(X0+1)=X0*X0+X0+X0+1:=by grind
   omega)
 clear hX0 HV hvs
 have hS6:=hid (hS5.out.fact (.m (.int .u64 x2) (.slice p2 l2 q2) (X0)) hm2)
 clear hS5 hm2
 obtain ⟨ne3l,ne3,ne3'⟩:=hS6.out.ne 2 w.heap.size 28 [.int .u64 x1,.slice p1 l1 q1] rfl
 obtain ⟨ne4l,ne4,ne4'⟩:=hS6.out.ne 1 (w.heap.size+1) 28 [.int .u64 0,.slice none 0 0] rfl
 obtain ⟨ne5l,ne5,ne5'⟩:=hS6.out.ne 0 w1.heap.size 28 [.int .u64 2,.slice none 0 0] rfl
 obtain ⟨⟨cA0,cA1⟩,fA0,fA1⟩:=hS6.out.f2 2 w.heap.size 28 (.int .u64 x1) (.slice p1 l1 q1) rfl
 obtain ⟨⟨ctwo0,ctwo1⟩,ftwo0,ftwo1⟩:=hS6.out.f2 0 w1.heap.size 28 (.int .u64 2) (.slice none 0 0) rfl
 go_wp2_with fail
 clear cA0 cA1 fA0 fA1 ctwo0 ctwo1 ftwo0 ftwo1
 have hL:=hid ((hS6.out).alloc' (w3.heap.size) (by simp) 28 [.int .u64 x2,.slice p2 l2 q2])
 go_loopg [5] X0 (fun X _ wr=>∃ (x3:Int) (p3:Option Addr) (l3 q3:Nat),1≤X∧X<B64 ^ (k+1)∧n<(X+1)*(X+1)∧St w [⟨w3.heap.size,28,[.int .u64 x3,.slice p3 l3 q3]⟩,⟨w1.heap.size,28,[.int .u64 2,.slice none 0 0]⟩,⟨w.heap.size+1,28,[.int .u64 0,.slice none 0 0]⟩,⟨w.heap.size,28,[.int .u64 x1,.slice p1 l1 q1]⟩] [.m (.int .u64 x3) (.slice p3 l3 q3) (X),.m (.int .u64 x1) (.slice p1 l1 q1) (n)] wr)
 case atStart=>exact ⟨x2,p2,l2,q2,HX.out.1,HX.out.2.1,HX.out.2.2,⟨hL.out.bel,hL.out.box,(hL.out.get (f:=.m (.int .u64 x2) (.slice p2 l2 q2) (X0)) 0 rfl),(hL.out.get (f:=.m (.int .u64 x1) (.slice p1 l1 q1) (n)) 1 rfl),trivial⟩⟩
 case round =>
  clear hL
  obtain ⟨x3,p3,l3,q3,h1,h2,h3,hSt⟩:=hrel
  have HS:=hid hSt
  have HX3:=hid (And.intro h1 (And.intro h2 h3))
  have hy1:n / gk<B64 ^ (k+1):=Nat.lt_of_le_of_lt (Nat.div_le_self _ _) (Nat.lt_of_lt_of_le HN.out.1 (Nat.pow_le_pow_right (by decide) (by omega)))
  have hy2:n / gk+gk<B64 ^ (k+2):=by
   rw [Nat.pow_succ B64 (k+1)]
   have:B64 ^ (k+1)*2≤B64 ^ (k+1)*B64:=Nat.mul_le_mul_left _ (by decide)
   omega
  have HY:=hid (And.intro h1 (And.intro h2 (And.intro hy1 hy2)))
  obtain ⟨Y,hY⟩:∃ Y,(n / gk+gk) / 2=Y:=⟨_,rfl⟩
  have HYe:=hid hY
  have HQ:=hid (fun (c d:Value) (W:World) (j:ah W c d (n / gk+gk))=>hY ▸ wI (n / gk+gk) 2 (k+2) c d (.int .u64 2) (.slice none 0 0) W j (oM _ 2 (by decide)) (by decide) (by omega) hy2)
  clear hSt h1 h2 h3 hy1 hy2 hY HX
  go_wp2_with fail
  have LM0:=hid (fun (W:World) (h:Below wr.heap.size wr W)=>((HS.out.call h).f2 3 w.heap.size 28 (.int .u64 x1) (.slice p1 l1 q1) rfl).1)
  have LM1:=hid (fun (W:World) (h:Below wr.heap.size wr W)=>((HS.out.call h).f2 0 w3.heap.size 28 (.int .u64 x3) (.slice p3 l3 q3) rfl).1)
  have LM2:=hid (fun (W:World) (h:Below wr.heap.size wr W)=>((HS.out.call h).f2 1 w1.heap.size 28 (.int .u64 2) (.slice none 0 0) rfl).1)
  refine jA 8 [⟨[],[0]⟩,⟨[],[1]⟩,⟨[0,1],[2]⟩,⟨[],[3]⟩,⟨[2,3],[4]⟩,⟨[],[5]⟩,⟨[4,5],[6]⟩,⟨[],[7]⟩]
   [oE (.agg #[.int .u64 x1,.slice p1 l1 q1]),oE (.agg #[.int .u64 x3,.slice p3 l3 q3]),one (dW (n / gk)),oE (.agg #[.int .u64 x3,.slice p3 l3 q3]),one (dW (n / gk+gk)),oE (.agg #[.int .u64 2,.slice none 0 0]),one (dW (Y)),one (jg wr.heap.size 28 [.int .u64 0,.slice none 0 0])]
   (fun _ W=>Below wr.heap.size wr W) (by kernel_rfl) (by kernel_rfl) ?hTWr ?hZWr ?hOWr ?hEWr
  case hZWr=>exact (Below.refl _ _).drew
  case hTWr =>
   simp only [List.forall_mem_cons,List.not_mem_nil,false_imp_iff,implies_true,and_true]
   exact ⟨bE,bE,aS oO,bE,aS oO,bE,aS oO,aS zV⟩
  case hOWr =>
   intro u
   simp only [List.take_succ_cons,List.take_zero,aJ]
   repeat' (first | with_reducible exact gZ | with_reducible refine gY ?_ ?_)
   ·intro W hS hF K hK
    have hcA:=LM0.out W hS
    go_simp
    exact hK _ _ (.refl _ _) hS rfl
   ·intro W hS hF K hK
    have hcx:=LM1.out W hS
    go_simp
    exact hK _ _ (.refl _ _) hS rfl
   ·intro W hS hF K hK
    have h0:u 0=.agg #[.int .u64 x1,.slice p1 l1 q1]:=hF.1
    have h1:u 1=.agg #[.int .u64 x3,.slice p3 l3 q3]:=hF.2.1
    have sH:=hid (HS.out.call hS)
    clear hF
    go_simp
    refine (HO.out gk _ _ _ (sH.out.get (f:=.m (.int .u64 x1) (.slice p1 l1 q1) (n)) 1 rfl) (sH.out.get (f:=.m (.int .u64 x3) (.slice p3 l3 q3) (gk)) 0 rfl) HY.out.1).mono ?_
    rintro e wA ⟨c,d,rfl,hm,hBA⟩
    obtain ⟨xx,pp,ll,qq,rfl,rfl⟩:=hm.shape
    exact ⟨_,rfl,hK _ _ hBA (hS.trans (hBA.mono hS.size)) ⟨_,_,_,_,rfl,hm⟩⟩
   ·intro W hS hF K hK
    have hcx:=LM1.out W hS
    go_simp
    exact hK _ _ (.refl _ _) hS rfl
   ·intro W hS hF K hK
    obtain ⟨x2,p2,l2,q2,h2,m2⟩:dW (n / gk) (u 2) W:=hF.1
    have h3:u 3=.agg #[.int .u64 x3,.slice p3 l3 q3]:=hF.2.1
    have sH:=hid (HS.out.call hS)
    clear hF
    go_simp
    refine (EX (n / gk) gk (k+1) _ _ _ _ _ m2 (sH.out.get (f:=.m (.int .u64 x3) (.slice p3 l3 q3) (gk)) 0 rfl) (by omega) HY.out.2.2.1 HY.out.2.1).mono ?_
    rintro e wA ⟨c,d,rfl,hm,hBA⟩
    obtain ⟨xx,pp,ll,qq,rfl,rfl⟩:=hm.shape
    exact ⟨_,rfl,hK _ _ hBA (hS.trans (hBA.mono hS.size)) ⟨_,_,_,_,rfl,hm⟩⟩
   ·intro W hS hF K hK
    have hctwo:=LM2.out W hS
    go_simp
    exact hK _ _ (.refl _ _) hS rfl
   ·intro W hS hF K hK
    obtain ⟨x4,p4,l4,q4,h4,m4⟩:dW (n / gk+gk) (u 4) W:=hF.1
    have h5:u 5=.agg #[.int .u64 2,.slice none 0 0]:=hF.2.1
    clear hF
    go_simp
    refine (HQ.out _ _ _ m4).mono ?_
    rintro e wA ⟨c,d,rfl,hm,hBA⟩
    obtain ⟨xx,pp,ll,qq,rfl,rfl⟩:=hm.shape
    exact ⟨_,rfl,hK _ _ hBA (hS.trans (hBA.mono hS.size)) ⟨_,_,_,_,rfl,hm⟩⟩
   ·intro W hS hF K hK
    go_simp
    refine hK _ _ ((Below.refl _ _).alloc (Nat.le_refl _) _) (hS.alloc hS.size _) ?_
    exact (show (jg wr.heap.size 28 [.int .u64 0,.slice none 0 0]) _ _ from ⟨_,rfl,hS.size,by simp,Bx.new W 28 [.int .u64 0,.slice none 0 0]⟩)
  case hEWr =>
   intro u Wr hS hF
   have hS7:=hid (HS.out.call hS)
   obtain ⟨L7,e7,hl7,hm7,hb7⟩:jg wr.heap.size 28 [.int .u64 0,.slice none 0 0] (u 7) Wr:=hF.2.2.2.2.2.2.2.1
   have hS8:=hid (hS7.out.add (Nat.le_trans HS.out.bel.size hl7) hb7 (HS.out.old hl7))
   clear hb7
   have hv0:dW Y (u 6) Wr:=hF.2.2.2.2.2.2.1
   clear hF hS
   obtain ⟨x6,p6,l6,q6,e6,m6⟩:=hv0
   have n7x:¬ L7=w3.heap.size:=by have:=(HS.out.bx (b:=⟨w3.heap.size,28,[.int .u64 x3,.slice p3 l3 q3]⟩) 0 rfl).lt;simp only at this;omega
   have n7x':¬ w3.heap.size=L7:=fun h=>n7x h.symm
   have n7two:¬ L7=w1.heap.size:=by have:=(HS.out.bx (b:=⟨w1.heap.size,28,[.int .u64 2,.slice none 0 0]⟩) 1 rfl).lt;simp only at this;omega
   have n7two':¬ w1.heap.size=L7:=fun h=>n7two h.symm
   have n7R:¬ L7=w.heap.size+1:=by have:=(HS.out.bx (b:=⟨w.heap.size+1,28,[.int .u64 0,.slice none 0 0]⟩) 2 rfl).lt;simp only at this;omega
   have n7R':¬ w.heap.size+1=L7:=fun h=>n7R h.symm
   have n7A:¬ L7=w.heap.size:=by have:=(HS.out.bx (b:=⟨w.heap.size,28,[.int .u64 x1,.slice p1 l1 q1]⟩) 3 rfl).lt;simp only at this;omega
   have n7A':¬ w.heap.size=L7:=fun h=>n7A h.symm
   have hS9:=hid (hS8.out.fact (.m (.int .u64 x6) (.slice p6 l6 q6) (Y)) m6)
   clear hS8 m6
   obtain ⟨⟨cx0,cx1⟩,fx0,fx1⟩:=hS9.out.f2 1 w3.heap.size 28 (.int .u64 x3) (.slice p3 l3 q3) rfl
   obtain ⟨⟨cyy0,cyy1⟩,fyy0,fyy1⟩:=hS9.out.f2 0 L7 28 (.int .u64 0) (.slice none 0 0) rfl
   simp only [List.take_succ_cons,List.take_zero,aJ,List.drop_succ_cons,List.drop_zero]
   go_wp2_with fail
   clear cx0 cx1 fx0 fx1 cyy0 cyy1 fyy0 fyy1
   have hS10:=hid ((((hS9.out).store (b:=⟨L7,28,[.int .u64 0,.slice none 0 0]⟩) 0 0 (.int .u64 x6) rfl rfl).store (b:=⟨L7,28,[.int .u64 x6,.slice none 0 0]⟩) 0 1 (.slice p6 l6 q6) rfl rfl).as [⟨L7,28,[.int .u64 x6,.slice p6 l6 q6]⟩,⟨w3.heap.size,28,[.int .u64 x3,.slice p3 l3 q3]⟩,⟨w1.heap.size,28,[.int .u64 2,.slice none 0 0]⟩,⟨w.heap.size+1,28,[.int .u64 0,.slice none 0 0]⟩,⟨w.heap.size,28,[.int .u64 x1,.slice p1 l1 q1]⟩] rfl)
   obtain ⟨Wy,hWy⟩:=cu hS10
   rw [hWy] at hS10 ⊢
   clear hWy
   refine (KL Y gk (k+2) _ _ _ _ _ (hS10.out.get (f:=.m (.int .u64 x6) (.slice p6 l6 q6) (Y)) 0 rfl) (hS10.out.get (f:=.m (.int .u64 x3) (.slice p3 l3 q3) (gk)) 1 rfl) (by omega) (HYe.out ▸ Nat.lt_of_le_of_lt (Nat.div_le_self _ _) HY.out.2.2.2)).mono ?_
   rintro e w8 ⟨rfl,hB⟩
   have hS11:=hid (hS10.out.call hB)
   clear hB
   clear hS10
   obtain ⟨C,hC⟩:∃ C,aG Y gk=C:=⟨_,rfl⟩
   rw [hC]
   have HC:=hid hC
   by_cases hge:gk≤Y
   ·have hc0:0≤C:=by
     rw [← hC]
     rcases Nat.lt_or_eq_of_le hge with h | h
     ·rw [iY h];decide
     ·rw [h,jD];decide
    clear hC
    obtain ⟨⟨cx0,cx1⟩,fx0,fx1⟩:=hS11.out.f2 1 w3.heap.size 28 (.int .u64 x3) (.slice p3 l3 q3) rfl
    obtain ⟨⟨cR0,cR1⟩,fR0,fR1⟩:=hS11.out.f2 3 (w.heap.size+1) 28 (.int .u64 0) (.slice none 0 0) rfl
    have hS12:=hid ((((hS11.out).store (b:=⟨w.heap.size+1,28,[.int .u64 0,.slice none 0 0]⟩) 3 0 (.int .u64 x3) rfl rfl).store (b:=⟨w.heap.size+1,28,[.int .u64 x3,.slice none 0 0]⟩) 3 1 (.slice p3 l3 q3) rfl rfl).as [⟨L7,28,[.int .u64 x6,.slice p6 l6 q6]⟩,⟨w3.heap.size,28,[.int .u64 x3,.slice p3 l3 q3]⟩,⟨w1.heap.size,28,[.int .u64 2,.slice none 0 0]⟩,⟨w.heap.size+1,28,[.int .u64 x3,.slice p3 l3 q3]⟩,⟨w.heap.size,28,[.int .u64 x1,.slice p1 l1 q1]⟩] rfl)
    go_wp2_with fail
    clear cx0 cx1 fx0 fx1 cR0 cR1 fR0 fR1
    obtain ⟨⟨zR0,zR1⟩,-⟩:=hS12.out.f2 3 (w.heap.size+1) 28 (.int .u64 x3) (.slice p3 l3 q3) rfl
    exact bodyPost_ret (v:=.agg #[.int .u64 x3,.slice p3 l3 q3]) (by simp [results,Tryz.results121,go_sem,zR0,zR1]) rfl ⟨gk,Xa n gk HX3.out.1 (by rw [HYe.out];exact hge),HX3.out.2.2,_,_,rfl,(hS12.out.get (f:=.m (.int .u64 x3) (.slice p3 l3 q3) (gk)) 1 rfl),hS12.out.bel⟩
   ·have hlt:Y<gk:=by omega
    have hc0:¬ 0≤C:=by rw [← hC,gX hlt];decide
    clear hC hge
    obtain ⟨⟨cx0,cx1⟩,fx0,fx1⟩:=hS11.out.f2 1 w3.heap.size 28 (.int .u64 x3) (.slice p3 l3 q3) rfl
    obtain ⟨⟨cyy0,cyy1⟩,fyy0,fyy1⟩:=hS11.out.f2 0 L7 28 (.int .u64 x6) (.slice p6 l6 q6) rfl
    go_wp2_with fail
    clear cx0 cx1 fx0 fx1 cyy0 cyy1 fyy0 fyy1
    have hJ:=hid ((((hS11.out).store (b:=⟨w3.heap.size,28,[.int .u64 x3,.slice p3 l3 q3]⟩) 1 0 (.int .u64 x6) rfl rfl).store (b:=⟨w3.heap.size,28,[.int .u64 x6,.slice p3 l3 q3]⟩) 1 1 (.slice p6 l6 q6) rfl rfl).as [⟨L7,28,[.int .u64 x6,.slice p6 l6 q6]⟩,⟨w3.heap.size,28,[.int .u64 x6,.slice p6 l6 q6]⟩,⟨w1.heap.size,28,[.int .u64 2,.slice none 0 0]⟩,⟨w.heap.size+1,28,[.int .u64 0,.slice none 0 0]⟩,⟨w.heap.size,28,[.int .u64 x1,.slice p1 l1 q1]⟩] rfl)
    go_roundg Y
    case rel =>
     have g1:=WZ n gk HN.out.2 HX3.out.1 (by rw [HYe.out];exact hlt)
     have g2:=WY n gk HX3.out.1
     rw [HYe.out] at g1 g2
     exact ⟨x6,p6,l6,q6,g1,Nat.lt_trans hlt HX3.out.2.1,g2,⟨hJ.out.bel,hJ.out.box.2,(hJ.out.get (f:=.m (.int .u64 x6) (.slice p6 l6 q6) (Y)) 0 rfl),(hJ.out.get (f:=.m (.int .u64 x1) (.slice p1 l1 q1) (n)) 2 rfl),trivial⟩⟩
    case measure=>exact hlt
theorem Yr (c d:Value) (n k:Nat) (w:World) (h:ah w c d n) (hk:k≤8589934592) (hn:n<B64 ^ k):Calls Tryz.prog 121 #[.agg #[c,d]] w (Bl w n):=by
 obtain ⟨x,p,l,q,rfl,rfl⟩:=h.shape
 rcases Nat.eq_zero_or_pos n with h0 | h0
 ·subst h0
  exact Yv x p l q w h
 ·exact Yt n k x p l q w h hk hn h0
end
section
open Go.RowKit Go.Sort
attribute [local go_sem] takes gU gQ gK
theorem XD (k:Nat) (hk:k≤8796093022208) (w:World):Calls Tryz.prog 97 #[.int .i64 (k:Int)] w (bC w (((2 ^ k:Nat):Int):Rat)):=by
 have HM:=hid (fun (W:World)=>KY 1 k 1 _ _ W (oM _ 1 (by decide)) (by omega) hk (by decide))
 obtain ⟨X,hX⟩:∃ X,2 ^ k=X:=⟨_,rfl⟩
 rw [Nat.one_mul,hX] at HM
 rw [hX]
 clear hX
 go_enter Tryz.func97,Tryz.ntmps97
 go_wp2_with fail
 have hS0:=hid ((St.start w).alloc' (w.heap.size) (by simp) 32 z5)
 obtain ⟨W0,hW0⟩:=cu hS0
 rw [hW0] at hS0 ⊢
 clear hW0
 refine (HM.out _).mono ?_
 rintro e w1 ⟨c1,d1,rfl,hm1,hB⟩
 have hS1:=hid (hS0.out.call hB)
 clear hB
 clear hS0
 obtain ⟨x1,p1,l1,q1,rfl,rfl⟩:=hm1.shape
 have hS2:=hid (hS1.out.fact (.m (.int .u64 x1) (.slice p1 l1 q1) (X)) hm1)
 clear hS1 hm1
 go_wp2_with fail
 refine (uX _ _ _ _ _ _).mono ?_
 rintro e w2 ⟨rfl,hB⟩
 have hS3:=hid (hS2.out.call hB)
 clear hB
 clear hS2
 obtain ⟨⟨cR0,cR1,cR2,cR3,cR4⟩,fR0,fR1,fR2,fR3,fR4⟩:=hS3.out.f5 0 w.heap.size 32 (.bool false) (.int .u64 0) (.slice none 0 0) (.int .u64 0) (.slice none 0 0) rfl
 have hS4:=hid (((((((hS3.out).store (b:=⟨w.heap.size,32,z5⟩) 0 0 (.bool false) rfl rfl).store (b:=⟨w.heap.size,32,z5⟩) 0 1 (.int .u64 x1) rfl rfl).store (b:=⟨w.heap.size,32,[.bool false,.int .u64 x1,.slice none 0 0,.int .u64 0,.slice none 0 0]⟩) 0 2 (.slice p1 l1 q1) rfl rfl).store (b:=⟨w.heap.size,32,[.bool false,.int .u64 x1,.slice p1 l1 q1,.int .u64 0,.slice none 0 0]⟩) 0 3 (.int .u64 0) rfl rfl).store (b:=⟨w.heap.size,32,[.bool false,.int .u64 x1,.slice p1 l1 q1,.int .u64 0,.slice none 0 0]⟩) 0 4 (.slice none 0 0) rfl rfl).as [⟨w.heap.size,32,[.bool false,.int .u64 x1,.slice p1 l1 q1,.int .u64 0,.slice none 0 0]⟩] rfl)
 go_wp2_with fail
 clear cR0 cR1 cR2 cR3 cR4 fR0 fR1 fR2 fR3 fR4
 obtain ⟨⟨zR0,zR1,zR2,zR3,zR4⟩,-⟩:=hS4.out.f5 0 w.heap.size 32 (.bool false) (.int .u64 x1) (.slice p1 l1 q1) (.int .u64 0) (.slice none 0 0) rfl
 have hq:=qG ((X:Nat):Int) (w:=(((((w2.setCell ⟨w.heap.size,0,none⟩ (.bool false)).setCell ⟨w.heap.size,1,none⟩ (.int .u64 x1)).setCell ⟨w.heap.size,2,none⟩ (.slice p1 l1 q1)).setCell ⟨w.heap.size,3,none⟩ (.int .u64 0)).setCell ⟨w.heap.size,4,none⟩ (.slice none 0 0))) (c:=.int .u64 x1) (d:=.slice p1 l1 q1) (by rw [Int.natAbs_natCast];exact (hS4.out.get (f:=.m (.int .u64 x1) (.slice p1 l1 q1) (X)) 0 rfl))
 rw [show decide (((X:Nat):Int)<0)=false from decide_eq_false (by omega)] at hq
 exact bodyPost_ret (v:=.agg #[.bool false,.int .u64 x1,.slice p1 l1 q1,.int .u64 0,.slice none 0 0]) (by simp [results,Tryz.results97,go_sem,zR0,zR1,zR2,zR3,zR4]) rfl ⟨_,rfl,hq,hS4.out.bel⟩
theorem U0 (k:Nat) (hk:k≤64) (w:World):Calls Tryz.prog 96 #[.int .i64 (k:Int)] w (aX w (.bool true)):=by
 go_enter Tryz.func96,Tryz.ntmps96
 go_wp2
 go_ret
 have h:(k:Int)≤64:=by omega
 refine ⟨?_,Below.refl _ _⟩
 show Ending.returned (.bool (decide ((k:Int)≤64)))=_
 rw [decide_eq_true h]
theorem TU (t:Bool) (x:Int) (p:Option Addr) (l q:Nat) (y:Int) (r:Option Addr) (s u:Nat) (W:World):(Instr.field 32 (.agg #[.bool t,.int .u64 x,.slice p l q,.int .u64 y,.slice r s u]) 0).run Tryz.prog W=.ok (.agg #[.bool t,.int .u64 x,.slice p l q]) W:=by
 kernel_rfl
theorem TV (t:Bool) (x:Int) (p:Option Addr) (l q:Nat) (W:World):(Instr.field 30 (.agg #[.bool t,.int .u64 x,.slice p l q]) 1).run Tryz.prog W=.ok (.agg #[.int .u64 x,.slice p l q]) W:=by
 kernel_rfl
theorem Un (r:Rat) (F:Nat) (hF:r.num / (r.den:Int)=(F:Int)) (v:Value) (k:Nat) (w:World) (h:IsQ w v r) (hk:k≤8589934592) (f:Fits k r):Calls Tryz.prog 98 #[v] w (fun e w'=>∃ s:Nat,s*s≤F∧F<(s+1)*(s+1)∧bC w (((s:Nat):Int):Rat) e w'):=by
 have HL:=hid (fun (W:World) (v:Value) (h:IsQ W v r)=>He r v k W h (by omega) f)
 rw [hF] at HL
 have hFk:F<B64 ^ k:=by
  have h1:=f.1
  have h2:(F:Int)≤(r.num.natAbs:Int):=by
   rw [← hF]
   refine Int.le_trans (Int.ediv_le_ediv (by have:=r.den_pos;omega) (Int.le_natAbs)) ?_
   exact Int.ediv_le_self _ (by omega)
  omega
 have HR:=hid (fun (W:World) (c d:Value) (h:ah W c d F)=>Yr c d F k W h hk hFk)
 obtain ⟨t1,x1,p1,l1,q1,y1,r1,s1,u1,rfl⟩:=h.open
 have HI:=hid h
 have hq0:=TU
 have hs1:=TV
 clear h hF hFk f
 go_enter Tryz.func98,Tryz.ntmps98
 go_wp2_with fail
 have hS0:=hid (((St.start w).alloc' (w.heap.size) (by simp) 32 (c5 t1 x1 p1 l1 q1 y1 r1 s1 u1)).alloc' (w.heap.size+1) (by simp) 32 z5)
 obtain ⟨W0,hW0⟩:=cu hS0
 rw [hW0] at hS0 ⊢
 clear hW0
 have hi1:=HI.out.below hS0.out.bel
 have hS1:=hid (hS0.out.fq hi1)
 clear hS0 hi1
 refine (HL.out _ _ (hS1.out.gq 0 rfl)).mono ?_
 rintro e w1 ⟨v2,rfl,hv2,hB⟩
 have hS2:=hid (hS1.out.call hB)
 clear hB
 clear hS1
 obtain ⟨t2,x2,p2,l2,q2,y2,r2,s2,u2,rfl,hm2,-,-⟩:=hv2.shape
 rw [show ((F:Int):Rat).num=(F:Int) from rfl,Int.natAbs_natCast] at hm2
 clear hv2
 have hS3:=hid (hS2.out.fact (.m (.int .u64 x2) (.slice p2 l2 q2) (F)) hm2)
 clear hS2 hm2
 go_wp2_with fail
 refine (HR.out _ _ _ (hS3.out.get (f:=.m (.int .u64 x2) (.slice p2 l2 q2) (F)) 0 rfl)).mono ?_
 rintro e w2 ⟨S,hs1',hs2',c3,d3,rfl,hm3,hB⟩
 have hS4:=hid (hS3.out.call hB)
 clear hB
 clear hS3
 obtain ⟨x3,p3,l3,q3,rfl,rfl⟩:=hm3.shape
 have HS:=hid (And.intro hs1' hs2')
 clear hs1' hs2'
 have hS5:=hid (hS4.out.fact (.m (.int .u64 x3) (.slice p3 l3 q3) (S)) hm3)
 clear hS4 hm3
 go_wp2_with fail
 refine (uX _ _ _ _ _ _).mono ?_
 rintro e w3 ⟨rfl,hB⟩
 have hS6:=hid (hS5.out.call hB)
 clear hB
 clear hS5
 obtain ⟨⟨cR0,cR1,cR2,cR3,cR4⟩,fR0,fR1,fR2,fR3,fR4⟩:=hS6.out.f5 0 (w.heap.size+1) 32 (.bool false) (.int .u64 0) (.slice none 0 0) (.int .u64 0) (.slice none 0 0) rfl
 have hS7:=hid (((((((hS6.out).store (b:=⟨w.heap.size+1,32,z5⟩) 0 0 (.bool false) rfl rfl).store (b:=⟨w.heap.size+1,32,z5⟩) 0 1 (.int .u64 x3) rfl rfl).store (b:=⟨w.heap.size+1,32,[.bool false,.int .u64 x3,.slice none 0 0,.int .u64 0,.slice none 0 0]⟩) 0 2 (.slice p3 l3 q3) rfl rfl).store (b:=⟨w.heap.size+1,32,[.bool false,.int .u64 x3,.slice p3 l3 q3,.int .u64 0,.slice none 0 0]⟩) 0 3 (.int .u64 0) rfl rfl).store (b:=⟨w.heap.size+1,32,[.bool false,.int .u64 x3,.slice p3 l3 q3,.int .u64 0,.slice none 0 0]⟩) 0 4 (.slice none 0 0) rfl rfl).as [⟨w.heap.size+1,32,[.bool false,.int .u64 x3,.slice p3 l3 q3,.int .u64 0,.slice none 0 0]⟩,⟨w.heap.size,32,(c5 t1 x1 p1 l1 q1 y1 r1 s1 u1)⟩] rfl)
 go_wp2_with fail
 clear cR0 cR1 cR2 cR3 cR4 fR0 fR1 fR2 fR3 fR4
 obtain ⟨⟨zR0,zR1,zR2,zR3,zR4⟩,-⟩:=hS7.out.f5 0 (w.heap.size+1) 32 (.bool false) (.int .u64 x3) (.slice p3 l3 q3) (.int .u64 0) (.slice none 0 0) rfl
 have hq:=qG ((S:Nat):Int) (w:=(((((w3.setCell ⟨w.heap.size+1,0,none⟩ (.bool false)).setCell ⟨w.heap.size+1,1,none⟩ (.int .u64 x3)).setCell ⟨w.heap.size+1,2,none⟩ (.slice p3 l3 q3)).setCell ⟨w.heap.size+1,3,none⟩ (.int .u64 0)).setCell ⟨w.heap.size+1,4,none⟩ (.slice none 0 0))) (c:=.int .u64 x3) (d:=.slice p3 l3 q3) (by rw [Int.natAbs_natCast];exact (hS7.out.get (f:=.m (.int .u64 x3) (.slice p3 l3 q3) (S)) 0 rfl))
 rw [show decide (((S:Nat):Int)<0)=false from decide_eq_false (by omega)] at hq
 exact bodyPost_ret (v:=.agg #[.bool false,.int .u64 x3,.slice p3 l3 q3,.int .u64 0,.slice none 0 0]) (by simp [results,Tryz.results98,go_sem,zR0,zR1,zR2,zR3,zR4]) rfl ⟨S,HS.out.1,HS.out.2,_,rfl,hq,hS7.out.bel⟩
end
end Go.Proofs.YtancpaiaoamjlaaGreatDoor
