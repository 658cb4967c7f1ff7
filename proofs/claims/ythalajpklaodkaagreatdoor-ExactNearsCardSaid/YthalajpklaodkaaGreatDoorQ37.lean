/- What the proof rests on, part 37. -/
import Derived.Test.YthalajpklaodkaaGreatDoorQ36
import Derived.Test.YthalajpklaodkaaGreatDoorQ34
import Derived.Test.YthalajpklaodkaaGreatDoorQ31
namespace Go.Proofs.YthalajpklaodkaaGreatDoor
set_option maxRecDepth 100000
set_option maxHeartbeats 80000000
namespace Rx
open Go.RowKit
noncomputable abbrev fnE:Func:=Tryz.f126
noncomputable abbrev feB (k j:Nat):Nat→Rat:=bet [dh j,((j:Int):Rat),((k:Int):Rat),(((j+1:Nat):Int):Rat)]
def feT (more:Bool):Ari:={ gt:=[(.v 2,.v 1,more)] }
def feL (more:Bool):List (RE×RE):=if more then [(.v 1,.v 3)] else []
theorem UF {k j:Nat} {more:Bool} (h:more=decide (j<k)):(feT more).Ok (feB k j):=by
 subst h
 refine ⟨fun p h=>(by cases h),fun p h=>(by cases h),fun p hp x y hx hy=>?_⟩
 obtain rfl:=List.mem_singleton.1 hp
 obtain rfl:x=(k:Int):=intCast_inj hx
 obtain rfl:y=(j:Int):=intCast_inj hy
 exact decide_eq_decide.2 (by omega)
theorem UE {k j:Nat} (hk:k≤64) {more:Bool} (h:more=decide (j<k)):jG (feB k j) (feL more):=by
 subst h
 intro p hp x hx
 by_cases hj:j<k
 ·rw [decide_eq_true hj] at hp
  obtain rfl:=List.mem_singleton.1 hp
  obtain rfl:x=(j:Int):=intCast_inj hx
  exact ⟨by omega,by omega,rfl⟩
 ·rw [decide_eq_false hj] at hp
  cases hp
def feP:Pat:=[some (.oi 0),none,some (.ptr 4 0),some (.ptr 5 0),some (.oi 3)] ++ List.replicate 10 none
def feX:List (Nat×TypeId×List Cell):=[(4,tRQ,rz4),(5,tRQ,aT 1)]
def feF:List Fc:=[.i 0 (.v 2),.r 1 (.v 0) 2,.i 3 (.v 1)]
def EJ:Nat→Option Nat
 | 0=>some 0 | 1=>some 65 | 2=>some 66 | 4=>some 1 | 5=>some 129 | _=>none
def Ko:List Fc:=[.i 0 (.v 2),.r 65 (.c 1) 1]
def fem:Nat→Option Nat
 | 0=>some 0 | 1=>some 326 | 2=>some 327 | 3=>some 518 | 4=>some 4 | 5=>some 5 | _=>none
def Kq:List Fc:=[.i 0 (.v 2),.r 326 (.add (.v 0) (.v 0)) 5,.i 518 (.v 3)]
section
variable (β:Nat→Rat)
theorem EI (more:Bool) (ok:(feT more).Ok β) (okL:jG β (feL more)):kW (SQ β) [.e (.s (.oi 0))] [.i 0 (.v 2)] 1=true ∧
  okR (S:=SQ β) oh feP feX EJ Ko (mQ Tryz.prog (SQ β) (HAi β {} (aV β) (feT more) ok (feL more) okL) (c1 β {}) [nf0 fnE,nf1 fnE,nf2 fnE] ⟨[.e (.s (.oi 0))] ++ List.replicate (fnE.ntmps - [SV.e (.s (.oi 0))].length) .und,[],[.i 0 (.v 2)],1⟩)=true∧wfB (SQ β) feP feX feF 6=true:=⟨by kernel_rfl,by kernel_rfl,by kernel_rfl⟩
theorem UG {more:Bool} (hm:more=false) (ok:(feT more).Ok β) (okL:jG β (feL more)) (u:Nat→Value):vP 2 (.v 0) (nZ Tryz.prog (SQ β) (HAi β {} (aV β) (feT more) ok (feL more) okL) (c1 β {}) (nfB fnE) (nfR fnE) fnE ⟨bV feP u 0,feX,feF,6⟩)=true:=by
 subst hm
 kernel_rfl
theorem UH {more:Bool} (hm:more=true) (ok:(feT more).Ok β) (okL:jG β (feL more)) (u:Nat→Value):okR (S:=SQ β) oh feP feX fem Kq (exec Tryz.prog (SQ β) (HAi β {} (aV β) (feT more) ok (feL more) okL) (c1 β {}) 1 (nfB fnE) ⟨bV feP u 0,feX,feF,6⟩)=true:=by
 subst hm
 kernel_rfl
end
theorem abh (j:Nat):dh j+dh j=dh (j+1):=by
 unfold dh
 rw [← Rat.intCast_add]
 congr 1
 rw [Nat.pow_succ]
 omega
theorem UM {k:Int} {w:World} (h1:0≤k) (h2:k≤64) (hE:EV w):Calls Tryz.prog 126 #[.int .i64 k] w (Z4.dW w (dh k.toNat)):=by
 obtain ⟨n,rfl⟩:∃ n:Nat,k=(n:Int):=⟨k.toNat,by omega⟩
 rw [Int.toNat_natCast]
 have hc:fnE.body=some ((nf0 fnE).seq ((nf1 fnE).seq (((nf2 fnE).seq (.block 0 (.loop (nfB fnE)))).seq (nfR fnE)))):=by kernel_rfl
 have okT:∀ j,(feT (decide (j<n))).Ok (feB n j):=fun j=>UF rfl
 have okL:∀ j,jG (feB n j) (feL (decide (j<n))):=fun j=>UE (by omega) rfl
 refine KF (Sj:=fun j=>SQ (feB n j)) (eqF:=fun _=>oh) (Hj:=fun j=>HAi (feB n j) {} (aV _) (feT (decide (j<n))) (okT j) (feL (decide (j<n))) (okL j)) (cj:=fun j=>c1 (feB n j) {}) (E:=EV) (n:=n) (fu:=1)
  (args:=[.e (.s (.oi 0))]) (fs0:=[.i 0 (.v 2)]) (b:=1) (p:=feP) (bx:=fun _=>feX) (fs:=fun _=>feF) (base:=6) (m0:=EJ) (m1:=fun _=>fem) (need0:=Ko) (need:=fun _=>Kq) (R:=fun v fs=>um (.v 0) 2 v fs=true) (ρ:=ev [nu (n:Int)])
  (fun _ _ _ h=>J5 h) mixed (fun j=>xY (aV _)) Tryz.func126 hc (EI _ _ (okT 0) (okL 0)).1 (EI _ _ (okT 0) (okL 0)).2.1 (fun j=>(EI _ _ (okT j) (okL j)).2.2) (fun j hj u=>UH _ (decide_eq_true hj) (okT j) (okL j) u) (fun u=>EH (UG _ (decide_eq_false (Nat.lt_irrefl _)) (okT n) (okL n) u)) (fun _=>Nat.zero_le _) (bg hE) (fun f=>?_) (fun ρ W h=>?_) (fun j hj ρ W h=>?_) (fun v fs hv ρ' W' hb hfs=>⟨_,rfl,Fj hv hfs,hb⟩)
 ·revert f
  show ∀ f∈[Fc.i 0 (.v 2)],Fc.on (feB n 0) (ev [nu (n:Int)]) f w
  simp only [List.forall_mem_cons,List.not_mem_nil,false_imp_iff,implies_true,and_true]
  exact ⟨by show _≤(n:Int);omega,by show (n:Int)≤_;omega,rfl⟩
 ·have g1:=h (Fc.i 0 (.v 2)) (.head _)
  have g2:=h (Fc.r 65 (.c 1) 1) (.tail _ (.head _))
  show ∀ f∈[Fc.i 0 (.v 2),.r 1 (.v 0) 2,.i 3 (.v 1)],Fc.on (feB n 0) (iw EJ ρ) f W
  simp only [List.forall_mem_cons,List.not_mem_nil,false_imp_iff,implies_true,and_true]
  exact ⟨g1,⟨g2.1,Fits.mono g2.2 (show 1≤2 by decide)⟩,⟨(by decide:(-9223372036854775808:Int)≤0),(by decide:(0:Int)≤9223372036854775807),rfl⟩⟩
 ·have g1:=h (Fc.i 0 (.v 2)) (.head _)
  have g2:=(h (Fc.r 326 (.add (.v 0) (.v 0)) 5) (.tail _ (.head _))).1
  have g3:=h (Fc.i 518 (.v 3)) (.tail _ (.tail _ (.head _)))
  rw [show (RE.add (.v 0) (.v 0)).ev (feB n j)=dh (j+1) from abh j] at g2
  show ∀ f∈[Fc.i 0 (.v 2),.r 1 (.v 0) 2,.i 3 (.v 1)],Fc.on (feB n (j+1)) (iw fem ρ) f W
  simp only [List.forall_mem_cons,List.not_mem_nil,false_imp_iff,implies_true,and_true]
  exact ⟨g1,⟨g2,wX (by omega)⟩,g3⟩
abbrev rrF:RE:=.flo (.mul (.v 0) (.mul (.v 2) (.v 2)))
def rrC (β:Nat→Rat):List (Con (SQ β)):=D7 β 126 (.v 1) 2 2 :: Ep β rrF 3 :: yC β :: yG β :: c1 β { nz:=[.v 2] }
theorem Z5 (β:Nat→Rat):vP 64 (.div (.v 3) (.v 2)) (aN Tryz.prog (SQ β) (HQ β {} (aV β)) (rrC β) 1 51 [.e (.a (aT 0)),.e (.s (.oi 2))] [.r 0 (.v 0) 4,.i 2 (.v 1)] 3)=true:=by kernel_rfl
theorem abj (g:Nat):dh g≠0:=fun h=>by
 have h1:((2 ^ g:Nat):Int)=0:=intCast_inj (h.trans (show (0:Rat)=((0:Int):Rat) from rfl))
 have:=Nat.two_pow_pos g
 omega
theorem Z7 {a:Rat} {k:Int} {v:Value} {w:World} (h:Z4.IsR w v a) (hf:Fits 4 a) (h0:¬ a.num<0) (h1:0≤k) (h2:k≤64) (hE:EV w):Calls Tryz.prog 51 #[v,.int .i64 k] w (Z4.dW w (Bc a k.toNat)):=by
 obtain ⟨c,d,rfl⟩:=mP h
 obtain ⟨β,hβ⟩:∃ β,β=bet [a,(k:Rat),dh k.toNat,(((isq (qY a k.toNat)):Nat):Int)]:=⟨_,rfl⟩
 have hr:=Z5 β
 have hx:rrF.ev β=((qY a k.toNat:Int):Rat):=by
  subst hβ
  show ((flo (a*(dh k.toNat*dh k.toNat)):Int):Rat)=_
  rw [← Rat.mul_assoc,GH _ h0]
 have hc:∀ c∈rrC β,c.Ok Tryz.prog (SQ β) EV:=by
  unfold rrC
  simp only [List.forall_mem_cons]
  refine ⟨Sl fun W m hm i1 i2 hE=>?_,SS hx (by subst hβ;rfl),JA,JD,xY ?_⟩
  ·subst hβ
   obtain rfl:m=k:=intCast_inj hm
   exact ⟨UM h1 h2 hE,wX (by omega)⟩
  ·subst hβ
   exact ⟨fun p h=>(by cases h),fun p h=>(by cases h),fun p hp=>(by obtain rfl:=List.mem_singleton.1 hp;exact abj _),fun p h=>(by cases h),fun p h=>(by cases h)⟩
 have hg:∀ g∈[Fc.r 0 (.v 0) 4,.i 2 (.v 1)],Fc.on β (ev [c,d,nu k]) g w:=by
  subst hβ
  simp only [List.forall_mem_cons,List.not_mem_nil,false_imp_iff,implies_true,and_true]
  exact ⟨⟨h,hf⟩,⟨by show _≤k;omega,by show k≤_;omega,rfl⟩⟩
 obtain ⟨v',fs,heq,ht⟩:=EH hr
 refine (dJ mixed hc heq (bg hE) hg).mono fun x W' ⟨ρ',_,hx,hb,hfs⟩=>⟨_,hx,?_,hb⟩
 have:=Fj ht hfs
 subst hβ
 exact this
end Rx
namespace Rx
open Go.RowKit
def yw (β:Nat→Rat) (f:FuncId) (m0 r:RE) (er:Int) (k0:Nat):Con (SQ β) where
 fn:=f
 app:=fun db b args=>match args with
  | [.e (.a x),.e (.s (.oi j))]=>match dD db x,dU db j with
   | some (.v 0,k),some em=>if decide (k≤4) && m0.beq em then some (.t [.a (aK b),.s (.it .i64 er)],[.q b r k0]) else none
   | _,_=>none
  | _=>none
theorem Jy {β:Nat→Rat} {f:FuncId} {m0 r:RE} {er:Int} {k0:Nat} (h:∀ v W (m:Int),(m:Rat)=m0.ev β→-9223372036854775808≤m→m≤9223372036854775807→IsQ W v (β 0)→Fits 4 (β 0)→EV W→Calls Tryz.prog f #[v,.int .i64 m] W (cO W (r.ev β) er)∧Fits k0 (r.ev β)):(yw β f m0 r er k0).Ok Tryz.prog (SQ β) EV:=by
 refine Con.ok0 rfl ?_
 intro db b args res new ha ρ W hf hE
 simp only [yw] at ha
 split at ha
 ·split at ha
  ·rename_i k em hx hj
   split at ha
   ·rename_i hk
    simp only [Bool.and_eq_true,decide_eq_true_eq] at hk
    cases ha
    obtain ⟨⟨h1,h2⟩,-⟩:=eY hx hf
    obtain ⟨i1,i2,i3⟩:=(show Fc.on β ρ (.i _ em) W from hf _ (dM hj))
    rw [← RE.beq_eq hk.2] at i3
    obtain ⟨g1,g2⟩:=h _ W _ i3 i1 i2 h1 (h2.mono hk.1) hE
    exact qj g1 g2
   ·cases ha
  ·cases ha
 ·cases ha
def nsM (b1:Bool):RE:=if b1 then .v 3 else .v 1
def nsT (b1 lt k0 k1:Bool):Ari:={ ar:=if b1 then [(.rem,.i64,.v 1,.c 60,.v 3)] else [],gt:=[(.v 1,.c 60,b1),(.c 1,nsM b1,lt),(.c 0,.v 2,k0),(.v 2,.c 64,k1)] }
def nsH (s:Int):Hint:={ sg:=[(.v 0,s),(.c 0,0)] }
def nsR (kk:Bool) (s:Int):RE×Int×Nat:=if kk then (.c 0,3,1) else if s = -1 then (.c 0,8,1) else (.v 5,0,11)
def nsC (β:Nat→Rat) (b1 lt kk:Bool) (s:Int):List (Con (SQ β)):=
 yj β :: yw β 48 (nsM b1) (if lt then .c 0 else .v 4) (if lt then 3 else 0) (if lt then 1 else 40) :: yw β 49 (.v 2) (nsR kk s).1 (nsR kk s).2.1 (nsR kk s).2.2 ::
 ((if lt then [] else [yD β 50 (.v 0) (nsM b1) 4 40]) ++ ((if kk || decide (s = -1) then [] else [yD β 51 (.v 0) (.v 2) 5 11]) ++ (cl1 β ++ c1 β (nsH s))))
theorem YP (β:Nat→Rat) (b1 lt k0 k1:Bool) (ok:(nsT b1 lt k0 k1).Ok β):(i3.all fun s=>isB true (aN Tryz.prog (SQ β) (HAr β {} (aV β) (nsT b1 lt k0 k1) ok) (nsC β b1 lt (k0 || k1) s) 1 5 [.e (.a (ET 0)),.e (.s (.oi 3)),.e (.s (.oi 4))] [.n 0 (.v 0),.i 3 (.v 1),.i 4 (.v 2)] 5))=true:=by
 cases b1 <;> cases lt <;> cases k0 <;> cases k1 <;> kernel_rfl
def iq (m:Int):Int:=if 60<m then m.tmod 60 else m
noncomputable def nsB (r:Rat) (m k:Int):Nat→Rat:=bet [r,(m:Rat),(k:Rat),(iq m:Rat),Nm.oW r (iq m),Bc r k.toNat]
theorem YL (m:Int):iq m≤60∧(-9223372036854775808≤m→-9223372036854775808≤iq m):=by
 unfold iq
 split
 ·have h1:=Int.tmod_nonneg 60 (show 0≤m by omega)
  have h2:=Int.tmod_lt_of_pos m (show 0<(60:Int) by omega)
  omega
 ·omega
theorem FT (r:Rat) (m k:Int):(nsM (decide (m > 60))).ev (nsB r m k)=(iq m:Rat):=by
 unfold nsM
 by_cases h:m > 60
 ·rw [decide_eq_true h];rfl
 ·rw [decide_eq_false h]
  show (m:Rat)=_
  unfold iq
  rw [if_neg (by omega)]
theorem YO (r:Rat) (m k:Int):(nsT (decide (m > 60)) (decide (1 > iq m)) (decide (0 > k)) (decide (k > 64))).Ok (nsB r m k):=by
 refine ⟨fun p h=>(by cases h),fun p hp x y hx hy=>?_,?_⟩
 ·by_cases hj:m > 60
  ·rw [decide_eq_true hj] at hp
   obtain rfl:=List.mem_singleton.1 hp
   obtain rfl:x=m:=intCast_inj hx
   obtain rfl:y=60:=intCast_inj hy
   have h1:=Int.tmod_nonneg 60 (show 0≤x by omega)
   have h2:=Int.tmod_lt_of_pos x (show 0<(60:Int) by omega)
   refine ⟨x.tmod 60,rfl,?_,?_⟩
   ·simp only [inK,Bool.and_eq_true,decide_eq_true_eq];omega
   ·show _=((iq x:Int):Rat)
    unfold iq
    rw [if_pos (by omega)]
  ·rw [decide_eq_false hj] at hp
   cases hp
 ·simp only [nsT,List.forall_mem_cons,List.not_mem_nil,false_imp_iff,implies_true,and_true]
  refine ⟨fun x y hx hy=>?_,fun x y hx hy=>?_,fun x y hx hy=>?_,fun x y hx hy=>?_⟩
  ·obtain rfl:x=m:=intCast_inj hx
   obtain rfl:y=60:=intCast_inj hy
   rfl
  ·rw [FT] at hy
   obtain rfl:x=1:=intCast_inj hx
   obtain rfl:y=iq m:=intCast_inj hy
   rfl
  ·obtain rfl:x=0:=intCast_inj hx
   obtain rfl:y=k:=intCast_inj hy
   rfl
  ·obtain rfl:x=k:=intCast_inj hx
   obtain rfl:y=64:=intCast_inj hy
   rfl
theorem YN (r:Rat) (m k:Int):(nsH (sgQ r)).Ok (nsB r m k):=by
 refine ⟨fun p h=>(by cases h),fun p h=>(by cases h),fun p h=>(by cases h),?_,fun p h=>(by cases h)⟩
 simp only [nsH,List.forall_mem_cons,List.not_mem_nil,false_imp_iff,implies_true,and_true]
 exact ⟨rfl,rfl⟩
theorem GY {r:Rat}:sgQ r = -1↔r.num<0:=by
 rw [Bh]
 split
 ·simp_all
 ·rename_i h
  split <;> simp [h]
theorem YM {r:Rat} {m k:Int} (hf:Fits 4 r):∀ c∈nsC (nsB r m k) (decide (m > 60)) (decide (1 > iq m)) (decide (0 > k) || decide (k > 64)) (sgQ r),c.Ok Tryz.prog (SQ (nsB r m k)) EV:=by
 obtain ⟨l1,l2⟩:=YL m
 unfold nsC
 simp only [List.forall_mem_cons]
 refine ⟨RF,Jy fun v W m' hm i1 i2 h1 f1 hE=>?_,Jy fun v W k' hk i1 i2 h1 f1 hE=>?_,fun c hc=>?_⟩
 ·rw [FT] at hm
  obtain rfl:m' = iq m:=intCast_inj hm
  by_cases hlt:1 > iq m
  ·rw [decide_eq_true hlt]
   exact ⟨Yk h1 i1 (by omega) hE,fits_int (n:=0) (by decide) (by decide)⟩
  ·rw [decide_eq_false hlt]
   obtain ⟨-,g2,g3⟩:=Nm.FN (a:=r) (m:=iq m) hf (by omega) (by omega)
   exact ⟨g3 v W h1 hE,g2⟩
 ·obtain rfl:k' = k:=intCast_inj hk
  unfold nsR
  by_cases hk0:k' < 0∨64<k'
  ·rw [show (decide (0 > k') || decide (k' > 64))=true by simp only [Bool.or_eq_true,decide_eq_true_eq];omega]
   exact ⟨ZQ h1 i1 i2 hk0 hE,fits_int (n:=0) (by decide) (by decide)⟩
  ·rw [show (decide (0 > k') || decide (k' > 64))=false by simp only [Bool.or_eq_false_iff,decide_eq_false_iff_not];omega]
   by_cases hs:sgQ r = -1
   ·rw [if_neg (by decide),if_pos hs]
    exact ⟨ZP h1 (by omega) (by omega) (GY.1 hs) hE,fits_int (n:=0) (by decide) (by decide)⟩
   ·rw [if_neg (by decide),if_neg hs]
    obtain ⟨g,rfl⟩:∃ g:Nat,k' = (g:Int):=⟨k'.toNat,by omega⟩
    have hn:¬ r.num<0:=fun h=>hs (GY.2 h)
    exact ⟨ZU (g:=g) (by omega) hn hf h1 hE,NP (g:=g) (by omega) hn hf⟩
 ·rcases List.mem_append.1 hc with hc | hc
  ·by_cases hlt:1 > iq m
   ·rw [decide_eq_true hlt] at hc
    cases hc
   ·rw [decide_eq_false hlt] at hc
    obtain rfl:=List.mem_singleton.1 hc
    refine JB fun v W m' hm i1 i2 h1 f1 hE=>?_
    rw [FT] at hm
    obtain rfl:m' = iq m:=intCast_inj hm
    exact ⟨ZK h1 hf (by omega) l1 hE,(Nm.FN (a:=r) (m:=iq m) hf (by omega) (by omega)).2.1⟩
  ·rcases List.mem_append.1 hc with hc | hc
   ·by_cases hk0:k<0∨64<k∨sgQ r = -1
    ·rw [if_pos (by simp only [Bool.or_eq_true,decide_eq_true_eq];omega)] at hc
     cases hc
    ·rw [if_neg (by simp only [Bool.or_eq_true,decide_eq_true_eq];omega)] at hc
     obtain rfl:=List.mem_singleton.1 hc
     have hn:¬ r.num<0:=fun h=>by have:=GY.2 h;omega
     refine JB fun v W k' hk i1 i2 h1 f1 hE=>?_
     obtain rfl:k' = k:=intCast_inj hk
     exact ⟨Z7 h1 hf hn (by omega) (by omega) hE,NP (by omega) hn hf⟩
   ·rcases List.mem_append.1 hc with hc | hc
    ·exact Ri c hc
    ·exact xY (YN r m k) c hc
theorem Yx {n1 d1 b1 m k:Int} {r:Rat} {W:World} (h1:IsN n1 d1 b1 r) (hm:-9223372036854775808≤m∧m≤9223372036854775807) (hk:-9223372036854775808≤k∧k≤9223372036854775807) (hE:EV W) :
  Calls Tryz.prog 5 #[.agg #[.int .i64 n1,.int .i64 d1,.int .u8 b1],.int .i64 m,.int .i64 k] W (aZ W (.bool true)):=by
 obtain ⟨ρ,hρ⟩:∃ ρ,ρ=ev [nu n1,nu d1,nu b1,nu m,nu k]:=⟨_,rfl⟩
 have hg:∀ g∈[Fc.n 0 (.v 0),.i 3 (.v 1),.i 4 (.v 2)],Fc.on (nsB r m k) ρ g W:=by
  rw [hρ]
  simp only [List.forall_mem_cons,List.not_mem_nil,false_imp_iff,implies_true,and_true]
  exact ⟨h1,⟨hm.1,hm.2,rfl⟩,⟨hk.1,hk.2,rfl⟩⟩
 have he:(List.map (SV.den ρ) [.e (.a (ET 0)),.e (.s (.oi 3)),.e (.s (.oi 4))]).toArray=#[.agg #[.int .i64 n1,.int .i64 d1,.int .u8 b1],.int .i64 m,.int .i64 k]:=by
  rw [hρ];kernel_rfl
 rw [← he]
 exact GK (YM h1.fits) (List.all_eq_true.1 (YP _ _ _ _ _ (YO r m k)) _ (mem3 (sg3 r))) hE hg
end Rx
end Go.Proofs.YthalajpklaodkaaGreatDoor
