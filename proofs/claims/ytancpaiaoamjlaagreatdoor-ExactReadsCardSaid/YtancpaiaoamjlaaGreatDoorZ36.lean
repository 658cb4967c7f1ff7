/- What the proof rests on, part 36. -/
import Derived.Test.YtancpaiaoamjlaaGreatDoorZ33
import Derived.Test.YtancpaiaoamjlaaGreatDoorZ35
import Derived.Test.YtancpaiaoamjlaaGreatDoorZ31
import Derived.Test.YtancpaiaoamjlaaGreatDoorZ34
namespace Go.Proofs.YtancpaiaoamjlaaGreatDoor
set_option maxRecDepth 100000
set_option maxHeartbeats 80000000
namespace Rx
open Go.RowKit
def rY (w:World) (r:Rat) (n:Int) (e:Ending) (w':World):Prop:=∃ v,e=.returned (.tuple #[v,.int .i64 n])∧(if n=0 then Z4.IsR w' v r else v=.agg #[.bool false,.slice none 0 0,.bool false,.slice none 0 0])∧Below w.heap.size w w'
def Dq (β:Nat→Rat) (n:Int) (r:RE) (k:Nat):Con (SQ β) where
 fn:=28
 app:=fun db b args=>match args with
  | [.e (.s (.ot s))]=>match fJ db s with
   | some (.v 0)=>some (.t [.a (aO b),.s (.it .i64 n)],[.q b r k])
   | _=>none
  | _=>none
def DF (β:Nat→Rat) (n:Int) (r:RE) (k:Nat):Con (SQ β) where
 fn:=29
 app:=fun db b args=>match args with
  | [.e (.s (.ot s))]=>match fJ db s with
   | some (.v 0)=>if n=0 then some (.t [.a (dw b),.s (.it .i64 0)],[.r b r k]) else some (.t [.a [.bl false,.nils,.bl false,.nils],.s (.it .i64 n)],[])
   | _=>none
  | _=>none
theorem IZ {β:Nat→Rat} {n:Int} {r:RE} {k:Nat} (h:∀ W,EV W→Calls Tryz.prog 28 #[.string ⟨(txt (β 0)).toArray⟩] W (dS W (r.ev β) n)) (hk:Fits k (r.ev β)):(Dq β n r k).Ok Tryz.prog (SQ β) EV:=by
 refine Con.ok0 rfl ?_
 intro db b args res new ha ρ W hf hE
 simp only [Dq] at ha
 split at ha
 ·rename_i s
  split at ha
  ·rename_i he
   cases ha
   rw [show (List.map (SV.den ρ) [.e (.s (.ot s))]).toArray=#[(Cell.ot s).den ρ] from rfl,ji he hf]
   exact su (h W hE) hk
  ·cases ha
 ·cases ha
theorem Q7 {β:Nat→Rat} {n:Int} {r:RE} {k:Nat} (h:∀ W,EV W→Calls Tryz.prog 29 #[.string ⟨(txt (β 0)).toArray⟩] W (rY W (r.ev β) n)) (hk:Fits k (r.ev β)):(DF β n r k).Ok Tryz.prog (SQ β) EV:=by
 refine Con.ok0 rfl ?_
 intro db b args res new ha ρ W hf hE
 simp only [DF] at ha
 split at ha
 ·rename_i s
  split at ha
  ·rename_i he
   have hc:=h W hE
   rw [show (List.map (SV.den ρ) [.e (.s (.ot s))]).toArray=#[(Cell.ot s).den ρ] from rfl,ji he hf]
   split at ha
   ·rename_i hn
    subst hn
    cases ha
    refine hc.mono fun _ W' ⟨v,hr,hv,hb⟩=>?_
    rw [if_pos rfl] at hv
    obtain ⟨c,d,rfl⟩:=rD hv
    have h1:(dw b).map (Cell.den (aH ρ b [c,d]))=[.bool c.b,.slice c.p c.l c.c,.bool false,.slice d.p d.l d.c]:=by simp [dw,Cell.den,aH]
    refine ⟨aH ρ b [c,d],gI (by simp [M]),?_,hb,fun g hg=>?_⟩
    ·rw [hr];simp only [SV.den,El.den,List.map_cons,List.map_nil,h1];rfl
    ·obtain rfl:=List.mem_singleton.1 hg
     exact ⟨by rw [h1];exact hv,hk⟩
   ·rename_i hn
    cases ha
    refine hc.mono fun _ W' ⟨v,hr,hv,hb⟩=>⟨ρ,fun _ _=>rfl,?_,hb,fun g hg=>by cases hg⟩
    rw [if_neg hn] at hv
    rw [hr,hv];rfl
  ·cases ha
 ·cases ha
def rdT (b1 b2:Bool):Ari:={ gt:=[(.v 1,.c 2000,b1),(.v 1,.c 1000,b2)] }
def rdX:Txt:={ len:=[(.v 0,.v 1)] }
def rdH:Hint:={ sg:=[(.c 0,0)] }
def rdN:Nat→Int×RE×Int
 | 0=>(5,.c 0,1)
 | 1=>(4,.c 0,1)
 | 2=>(9,.c 0,2)
 | _=>(0,.v 2,0)
def rdC (β:Nat→Rat) (b1:Bool) (c:Nat):List (Con (SQ β)):=
 xZ β :: (if b1 then [] else Dq β (rdN c).1 (rdN c).2.1 4096 :: (if c=0 then [] else [DF β (rdN c).2.2 (rdN c).2.1 4096])) ++ c1 β rdH
theorem Yb (β:Nat→Rat) (b1:Bool) (c:Nat) (hc:c<4) (okT:(rdT b1 (decide (c=0))).Ok β) (okX:rdX.Ok β):isB true (bg Tryz.prog (SQ β) (HTx β {} (bP β) (rdT b1 (decide (c=0))) okT rdX okX) (rdC β b1 c) 1 4 [.e (.s (.ot 0))] [.tx 0 (.v 0)] 1)=true:=by
 rcases (show c=0∨c=1∨c=2∨c=3 by omega) with rfl | rfl | rfl | rfl <;> cases b1 <;> kernel_rfl
end Rx
namespace Rx
open Go.RowKit
def tH:List Fc→Nat→Option Nat
 | [],_=>none
 | .ln s t :: r,n=>if s=n then some t else tH r n
 | _ :: r,n=>tH r n
theorem lu {n t:Nat}:∀ {db:List Fc},tH db n=some t→.ln n t∈db
 | [],h=>by simp [tH] at h
 | f :: r,h=>by
  cases f with
  | ln s e' =>
   simp only [tH] at h
   split at h
   ·rename_i hs;cases h;subst hs;simp
   ·exact List.mem_cons_of_mem _ (lu h)
  | q _ _ _=>exact List.mem_cons_of_mem _ (lu h)
  | r _ _ _=>exact List.mem_cons_of_mem _ (lu h)
  | x _ _=>exact List.mem_cons_of_mem _ (lu h)
  | n _ _=>exact List.mem_cons_of_mem _ (lu h)
  | i _ _=>exact List.mem_cons_of_mem _ (lu h)
  | z _ _ _=>exact List.mem_cons_of_mem _ (lu h)
  | w _ _=>exact List.mem_cons_of_mem _ (lu h)
  | tx _ _=>exact List.mem_cons_of_mem _ (lu h)
def lnX (h:Hint) (db:List Fc) (c d:Cell):Option Bool:=match c,d with
 | .oi a,.it .i64 0=>match tH db a with
  | some t=>match qB db t with
   | some (e,_)=>if nzB h e || je e then some false else if eqB h e (.c 0) then some true else none
   | none=>none
  | none=>none
 | _,_=>none
theorem VA {β:Nat→Rat} {h:Hint} (ok:h.Ok β) {db:List Fc} {c d:Cell} {x:Bool} {ρ:Env} {W:World} (hh:lnX h db c d=some x) (hf:∀ f∈db,Fc.on β ρ f W):∃ (k:IntKind) (a b:Int),c.den ρ=.int k a∧d.den ρ=.int k b∧(a == b)=x:=by
 unfold lnX at hh
 split at hh
 ·rename_i a
  split at hh
  ·rename_i t ht
   split at hh
   ·rename_i e k he
    have h1:(ρ a).u=((ρ t).l:Int):=hf _ (lu ht)
    obtain ⟨z,⟨p,l,c,xs,hv,hL,hd,htr,hval⟩,hz,-⟩:Fc.on β ρ (.z t e k) W:=hf _ (kH he)
    have hl:(ρ t).l=l:=by
     have:=congrArg Array.toList (Value.agg.inj hv)
     simp only [zC,List.map_cons,List.map_nil,Cell.den,List.cons.injEq,Value.slice.injEq,and_true] at this
     exact this.2.2.1
    have hlen:=hL.len
    have h0:=Z4.rU hd htr
    rw [hval] at h0
    refine ⟨.i64,(ρ a).u,0,rfl,rfl,?_⟩
    rw [h1,hl]
    split at hh
    ·rename_i hn
     cases hh
     have hne:e.ev β≠0:=by
      rcases Bool.or_eq_true _ _ ▸ hn with h | h
      ·exact jd ok h
      ·exact qX h
     rw [beq_eq_false_iff_ne]
     intro hc
     have:z=0:=by have:=h0.1 (by omega);omega
     subst this
     exact hne hz.symm
    ·split at hh
     ·rename_i he0
      cases hh
      have h2:(z:Rat)=((0:Int):Rat):=hz.trans (kD ok he0)
      obtain rfl:z=0:=intCast_inj h2
      have:=h0.2 rfl
      rw [beq_iff_eq];omega
     ·cases hh
   ·cases hh
  ·cases hh
 ·cases hh
def HTl (β:Nat→Rat) (h:Hint) (ok:h.Ok β) (T:Ari) (okT:T.Ok β) (X:Txt) (okX:X.Ok β) (L:List (RE×RE)) (okL:dH β L):Tests (SQ β):=
 { HTi β h ok T okT X okX L okL with
  eq:=fun db c d=>match lnX h db c d with
   | some x=>some x
   | none=>(HTi β h ok T okT X okX L okL).eq db c d
  ok:=fun {fs c d x} hh ρ W hf=>by
   split at hh
   ·rename_i y hy
    cases hh
    exact .inr (VA ok hy hf)
   ·exact (HTi β h ok T okT X okX L okL).ok hh ρ W hf }
def DV (β:Nat→Rat) (L:List (RE×RE×Nat)):Con (SQ β) where
 fn:=68
 app:=fun db b args=>match args with
  | [.e (.s (.ot s))]=>match fJ db s with
   | some e=>(L.find? fun p=>p.1.beq e).map fun p=>(.e (.a (zC b)),[.z b p.2.1 p.2.2])
   | none=>none
  | _=>none
theorem Ro {β:Nat→Rat} {L:List (RE×RE×Nat)} (hL:∀ p∈L,(txt (p.1.ev β)).all aN=true∧(txt (p.1.ev β)).length≤1000∧((dv (txt (p.1.ev β)):Int):Rat)=p.2.1.ev β∧dv (txt (p.1.ev β))<B64 ^ p.2.2):(DV β L).Ok Tryz.prog (SQ β) EV:=by
 refine Con.ok0 rfl ?_
 intro db b args res new ha ρ W hf hE
 simp only [DV] at ha
 split at ha
 ·rename_i s
  split at ha
  ·rename_i e he
   obtain ⟨p,hp,hr⟩:=Option.map_eq_some_iff.1 ha
   cases hr
   have hs:=List.find?_some hp
   obtain ⟨l1,l2,l3,l4⟩:=hL p (List.mem_of_find?_eq_some hp)
   rw [RE.beq_eq hs] at l1 l2 l3 l4
   rw [show (List.map (SV.den ρ) [.e (.s (.ot s))]).toArray=#[(Cell.ot s).den ρ] from rfl,ji he hf]
   exact sF (aao l1 l2 hE) l3 l4
  ·cases ha
 ·cases ha
structure PqK where
 κ:Nat
 neg:Bool
 t:Bool
 u:Bool
 dz:Bool
def PqK.X (K:PqK):Txt:={ len:=[(.v 1,.v 2)],eqn:=[(.v 4,.c 47,decide (K.κ=0)),(.v 4,.c 46,decide (K.κ=1))],hi:=[(.v 1,.v 3,.v 10)],lo:=if K.κ≤1 then [(.v 1,.v 9,.v 11)] else [] }
def PqK.L (K:PqK):List (RE×RE):=if K.κ≤1 then [(.v 3,.v 9)] else []
def PqK.h (K:PqK):Hint:={ nz:=(if K.κ=0 && !K.dz then [.v 13] else []) ++ if K.κ=1 then [.v 14] else [],eq:=if K.κ=0 && K.dz then [(.v 13,.c 0)] else [] }
def PqK.C (β:Nat→Rat) (K:PqK):List (Con (SQ β)):=
 [nT β 66 ((.v 10,K.t) :: if K.κ=0 then [(.v 11,K.u)] else []),nT β 67 (if K.κ=1 then [(.v 11,K.u)] else []),
  DV β ((if K.t then [(.v 10,.v 12,1001)] else []) ++ if K.κ≤1 && K.u then [(.v 11,.v 13,1001)] else []),yw β,yx β,yu β,DW β,Dx β K.h]
def PqK.top (K:PqK):RE:=if K.κ=1 then .add (.mul (.v 12) (.v 14)) (.v 13) else .v 12
def PqK.den (K:PqK):RE:=if K.κ=0 then .v 13 else if K.κ=1 then .v 14 else .c 1
def PqK.bad (K:PqK):Bool:=!K.t || (decide (K.κ≤1) && !K.u)
def PqK.res (K:PqK):Int×RE:=
 if K.bad then (1,.c 0) else if decide (K.κ=0) && K.dz then (2,.c 0) else (0,.div (if K.neg then .neg K.top else K.top) K.den)
def qI (n:Int) (e:RE):Option (SV×List Fc)→Bool
 | some (.t [.a cs,.s (.it .i64 m)],fs)=>n == m && (if n=0 then (match jZ fs cs with
  | some (e',_)=>e'.beq e
  | none=>false) else (match cs with
  | [.bl false,.nils,.bl false,.nils]=>true
  | _=>false))
 | _=>false
theorem Ku {n:Int} {e:RE} {o:Option (SV×List Fc)} (h:qI n e o=true):∃ v fs,o=some (v,fs)∧qI n e (some (v,fs))=true:=by
 cases o with
 | none=>cases h
 | some x=>exact ⟨x.1,x.2,rfl,h⟩
theorem Kt {β:Nat→Rat} {n:Int} {e:RE} {v:SV} {fs:List Fc} (h:qI n e (some (v,fs))=true) {w W:World} {ρ:Env} (hf:∀ f∈fs,Fc.on β ρ f W) (hb:Below w.heap.size w W):rY w (e.ev β) n (.returned (v.den ρ)) W:=by
 unfold qI at h
 split at h
 ·rename_i cs m fs' heq
  cases heq
  simp only [Bool.and_eq_true,beq_iff_eq] at h
  obtain ⟨rfl,h⟩:=h
  refine ⟨.agg (cs.map (Cell.den ρ)).toArray,rfl,?_,hb⟩
  split at h
  ·rename_i h0
   rw [if_pos h0]
   split at h
   ·rename_i e' k hx
    rw [← RE.beq_eq h]
    exact (lX hx hf).1
   ·cases h
  ·rename_i h0
   rw [if_neg h0]
   split at h
   ·rfl
   ·cases h
 ·cases h
theorem YB (β:Nat→Rat) (κ:Nat) (hκ:κ<3) (neg t u dz:Bool) (h1:κ=1→(t && u)=false) (okh:(PqK.h ⟨κ,neg,t,u,dz⟩).Ok β) (ok:(paT false).Ok β) (okX:(PqK.X ⟨κ,neg,t,u,dz⟩).Ok β) (okL:dH β (PqK.L ⟨κ,neg,t,u,dz⟩)) (r:Nat→Value) :
  qI (PqK.res ⟨κ,neg,t,u,dz⟩).1 (PqK.res ⟨κ,neg,t,u,dz⟩).2 (zu Tryz.prog (SQ β) (HTl β (PqK.h ⟨κ,neg,t,u,dz⟩) okh (paT false) ok (PqK.X ⟨κ,neg,t,u,dz⟩) okX (PqK.L ⟨κ,neg,t,u,dz⟩) okL) (PqK.C β ⟨κ,neg,t,u,dz⟩) (pcB aU) (pcR aU) aU ⟨bD (paP neg) r 0,paK,paF,6⟩)=true:=by
 rcases (show κ=0∨κ=1∨κ=2 by omega) with rfl | rfl | rfl <;> cases neg <;> cases t <;> cases u <;> cases dz <;> first | (exact absurd (h1 rfl) (by decide)) | kernel_rfl
end Rx
namespace Rx
open Go.RowKit
def qr1 (c:Code):Code:=match c with | .seq a _=>a | _=>.skip
def qr2 (c:Code):Code:=match c with | .seq _ (.seq a _)=>a | _=>.skip
def qr3 (c:Code):Code:=match c with | .seq _ (.seq _ (.seq a _))=>a | _=>.skip
def qr4 (c:Code):Code:=match c with | .seq _ (.seq _ (.seq _ (.seq (.seq a _) _)))=>a | _=>.skip
def qr5 (c:Code):Code:=match c with | .seq _ (.seq _ (.seq _ (.seq (.seq _ (.cond _ (.seq (.seq a _) _) _)) _)))=>a | _=>.skip
def qrB (c:Code):Code:=match c with | .seq _ (.seq _ (.seq _ (.seq (.seq _ (.cond _ (.seq (.seq _ (.block _ (.loop b))) _) _)) _)))=>b | _=>.skip
def qr6 (c:Code):Code:=match c with | .seq _ (.seq _ (.seq _ (.seq (.seq _ (.cond _ (.seq _ a) _)) _)))=>a | _=>.skip
def qr7 (c:Code):Code:=match c with | .seq _ (.seq _ (.seq _ (.seq _ a)))=>a | _=>.skip
noncomputable abbrev qR:Code:=pcR aU
theorem XY:qR=(qr1 qR).seq ((qr2 qR).seq ((qr3 qR).seq (((qr4 qR).seq (.cond (.tmp 90) (((qr5 qR).seq (.block 2 (.loop (qrB qR)))).seq (qr6 qR)) .skip)).seq (qr7 qR)))):=by kernel_rfl
def psP (neg:Bool):Pat:=[some (.ot 0),none,some (.ptr 2 0),some (.it .i64 0),some (.bl neg),some (.oi 3),some (.o8 4),none,some (.ptr 6 0),some (.ptr 7 0),some (.oi 5)] ++ List.replicate 111 none
def psK:List (Nat×TypeId×List Cell):=[(2,37,[.bl false,.nils,.bl false,.nils]),(6,35,zC 8),(7,35,zC 9)]
def psF:List Fc:=[.tx 0 (.v 1),.i 3 (.v 3),.i 4 (.v 4),.i 5 (.v 5),.z 8 (.v 12) 1001,.z 9 (.v 14) 1001]
def L9:Nat→Option Nat
 | 0=>some 0 | 2=>some 2 | 3=>some 3 | 4=>some 4 | 5=>some 3014 | 6=>some 2438 | 7=>some 2502 | 8=>some 2310 | 9=>some 2374 | _=>none
def Mc:List Fc:=[.tx 0 (.v 1),.i 3 (.v 3),.i 4 (.v 4),.i 3014 (.v 9),.z 2310 (.v 12) 1001,.z 2374 (.c 1) 1]
def psm:Nat→Option Nat
 | 0=>some 0 | 2=>some 2 | 3=>some 3 | 4=>some 4 | 5=>some 586 | 6=>some 6 | 7=>some 7 | 8=>some 8 | 9=>some 394 | _=>none
def psn:List Fc:=[.tx 0 (.v 1),.i 3 (.v 3),.i 4 (.v 4),.i 586 (.v 7),.z 8 (.v 12) 1001,.z 394 (.mul (.v 14) (.c 10)) 1002]
section
variable (P:Program) (S:Sys) (H:Tests S) (cons:List (Con S))
noncomputable def LZ (B:Code) (σ:State S):Option (State S×State S):=match exec P S H cons 1 B σ with
 | some (.exit 0,σ1)=>match gG P S H cons [qr1 qR,qr2 qR,qr3 qR,qr4 qR] σ1 with
  | some (.normal,σ5)=>match opd (fun t=>some (σ5.regs.getD t .und)) (.tmp 90) with
   | some (.e (.s (.bl true)))=>match exec P S H cons 1 (qr5 qR) σ5 with
    | some (.normal,σ6)=>some (σ5,σ6)
    | _=>none
   | _=>none
  | _=>none
 | _=>none
noncomputable def preB (eqF:S.F→S.F→Bool) (p:Pat) (bx:List (Nat×TypeId×List Cell)) (m:Nat→Option Nat) (need:List S.F) (B:Code) (σ:State S):Bool:=match LZ P S H cons B σ with
 | some (_,σ6)=>okR eqF p bx m need (some (.normal,σ6))
 | none=>false
noncomputable def JB (fn:Func) (σ:State S):Option (SV×List S.F):=match exec P S H cons 1 (qrB qR) σ with
 | some (.exit 2,σ1)=>match exec P S H cons 1 (qr6 qR) σ1 with
  | some (.normal,σ2)=>match exec P S H cons 1 (qr7 qR) σ2 with
   | some (.ret,σ3)=>match jR P S σ3 fn.results.toList with
    | some l=>some (jQ l,σ3.fs)
    | none=>none
   | _=>none
  | _=>none
 | _=>none
end
def psX:Txt:={ len:=[(.v 1,.v 2)] }
section
variable (β:Nat→Rat)
theorem XP (neg dz:Bool) (okh:(PqK.h ⟨1,neg,true,true,dz⟩).Ok β) (ok:(paT false).Ok β) (okX:(PqK.X ⟨1,neg,true,true,dz⟩).Ok β) (okL:dH β (PqK.L ⟨1,neg,true,true,dz⟩)) (u:Nat→Value) :
  preB Tryz.prog (SQ β) (HTl β (PqK.h ⟨1,neg,true,true,dz⟩) okh (paT false) ok (PqK.X ⟨1,neg,true,true,dz⟩) okX (PqK.L ⟨1,neg,true,true,dz⟩) okL) (PqK.C β ⟨1,neg,true,true,dz⟩) jk (psP neg) psK L9 Mc (pcB aU) ⟨bD (paP neg) u 0,paK,paF,6⟩=true:=by
 cases neg <;> cases dz <;> kernel_rfl
theorem L8 (neg:Bool):wfB (SQ β) (psP neg) psK psF 10=true:=by cases neg <;> kernel_rfl
theorem XQ {more:Bool} (neg:Bool) (h:more=true) (ok:(paT more).Ok β) (okX:psX.Ok β) (okL:dH β (paL more)) (u:Nat→Value):okR (S:=SQ β) jk (psP neg) psK psm psn (exec Tryz.prog (SQ β) (HTi β {} (bP β) (paT more) ok psX okX (paL more) okL) (zpC β) 1 (qrB qR) ⟨bD (psP neg) u 0,psK,psF,10⟩)=true:=by
 subst h
 cases neg <;> kernel_rfl
theorem XO (neg dz:Bool) (okh:(PqK.h ⟨1,neg,true,true,dz⟩).Ok β) (ok:(paT false).Ok β) (okX:(PqK.X ⟨1,neg,true,true,dz⟩).Ok β) (okL:dH β (PqK.L ⟨1,neg,true,true,dz⟩)) (u:Nat→Value) :
  qI (PqK.res ⟨1,neg,true,true,dz⟩).1 (PqK.res ⟨1,neg,true,true,dz⟩).2 (JB Tryz.prog (SQ β) (HTl β (PqK.h ⟨1,neg,true,true,dz⟩) okh (paT false) ok (PqK.X ⟨1,neg,true,true,dz⟩) okX (PqK.L ⟨1,neg,true,true,dz⟩) okL) (PqK.C β ⟨1,neg,true,true,dz⟩) aU ⟨bD (psP neg) u 0,psK,psF,10⟩)=true:=by
 cases neg <;> cases dz <;> kernel_rfl
end
theorem Y7 {P:Program} {S:Sys} {H:Tests S} {cons:List (Con S)} {c0 c1 c2 c3:Code} {σ σ':State S} (h:gG P S H cons [c0,c1,c2,c3] σ=some (.normal,σ')):∃ σ1 σ2 σ3,exec P S H cons 1 c0 σ=some (.normal,σ1)∧exec P S H cons 1 c1 σ1=some (.normal,σ2)∧exec P S H cons 1 c2 σ2=some (.normal,σ3)∧exec P S H cons 1 c3 σ3=some (.normal,σ'):=by
 have cut:∀ {c:Code} {r:List Code} {σ:State S},gG P S H cons (c :: r) σ=some (.normal,σ')→∃ σ1,exec P S H cons 1 c σ=some (.normal,σ1)∧gG P S H cons r σ1=some (.normal,σ'):=by
  intro c r σ h
  simp only [gG] at h
  split at h
  ·rename_i σ1 h1
   exact ⟨σ1,h1,h⟩
  ·cases h
 obtain ⟨σ1,x0,h⟩:=cut h
 obtain ⟨σ2,x1,h⟩:=cut h
 obtain ⟨σ3,x2,h⟩:=cut h
 obtain ⟨σ4,x3,h⟩:=cut h
 simp only [gG,Option.some.injEq,Prod.mk.injEq,true_and] at h
 subst h
 exact ⟨σ1,σ2,σ3,x0,x1,x2,x3⟩
theorem AV (W:World) {β:Nat→Rat} {ρ:Env} {a k:Nat} {e e':RE} (h:Fc.on β ρ (.z a e k) W) {β':Nat→Rat} {ρ':Env} {b k':Nat} (hd:(zC b).map (Cell.den ρ')=(zC a).map (Cell.den ρ)) (he:e.ev β=e'.ev β') (hk:∀ z:Int,(z:Rat)=e'.ev β'→z.natAbs<B64 ^ k→z.natAbs<B64 ^ k'):Fc.on β' ρ' (.z b e' k') W:=by
 obtain ⟨z,h1,h2,h3⟩:=h
 exact ⟨z,by rw [hd];exact h1,by rw [h2,he],hk z (h2.trans he) h3⟩
theorem last2 {l s:List UInt8} {m:Nat} (hl:s.length≤1000) (hm:s.length=ak s+1+m) {neg dz:Bool} (okh:(PqK.h ⟨1,neg,true,true,dz⟩).Ok (paB l s (ak s+1+m))) (okX:(PqK.X ⟨1,neg,true,true,dz⟩).Ok (paB l s (ak s+1+m))) (okL:dH (paB l s (ak s+1+m)) (PqK.L ⟨1,neg,true,true,dz⟩))
  (okC:∀ c∈PqK.C (paB l s (ak s+1+m)) ⟨1,neg,true,true,dz⟩,c.Ok Tryz.prog (SQ (paB l s (ak s+1+m))) EV) {w:World} (hE:EV w) {Q:Ending→World→Prop}
  (hQ:∀ v fs,qI (PqK.res ⟨1,neg,true,true,dz⟩).1 (PqK.res ⟨1,neg,true,true,dz⟩).2 (some (v,fs))=true→∀ ρ' W',Below w.heap.size w W'→(∀ f∈fs,Fc.on (paB l s (ak s+1+m)) ρ' f W')→Q (.returned (v.den ρ')) W')
  {u:Nat→Value} {ρ:Env} {a:Act} {W:World} (hs:State.Says (S:=SQ (paB l s (ak s+1+m))) ⟨bD (paP neg) u 0,paK,paF,6⟩ w ρ a W) :
  Code.rounds Tryz.prog (pcB aU) (Exit.inBlock 0 (Exit.then ((pcR aU).wp Tryz.prog (bodyPost Tryz.prog aU Q)) (bodyPost Tryz.prog aU Q))) 1 a W:=by
 have okT:∀ i,(paT (paM s (ak s+1+i))).Ok (paB l s (ak s+1+i)):=fun i=>FC
 have okL':∀ i,dH (paB l s (ak s+1+i)) (paL (paM s (ak s+1+i))):=fun i=>LH (by omega)
 have okX':∀ i,psX.Ok (paB l s (ak s+1+i)):=fun i=>⟨(LJ (l:=l) (j:=ak s+1+i) (show s.length≤1000000 by omega)).1,fun p h=>(by cases h),fun p h=>(by cases h),fun p h=>(by cases h),fun p h=>(by cases h),fun p h=>(by cases h),fun p h=>(by cases h)⟩
 have ok:(paT false).Ok (paB l s (ak s+1+m)):=by
  have:=okT m
  rwa [paM,decide_eq_false (by omega)] at this
 have atp:∀ i,atJ s (ak s+1+i)=ak s:=fun i=>by rw [atJ,if_neg (by omega)]
 have sgp:∀ i,sgJ s (ak s+1+i)=s.getD (ak s) 48:=fun i=>by rw [sgJ,if_neg (by omega)]
 have hpre:=XP _ neg dz okh ok okX okL u
 unfold preB at hpre
 split at hpre
 ·rename_i σ5 σ6 hx
  unfold LZ at hx
  split at hx
  ·rename_i σ1 hx1
   split at hx
   ·rename_i σ5' hx5
    split at hx
    ·rename_i hop
     split at hx
     ·rename_i σ6' hx6
      simp only [Option.some.injEq,Prod.mk.injEq] at hx
      obtain ⟨rfl,rfl⟩:=hx
      obtain ⟨τ1,τ2,τ3,y1,y2,y3,y4⟩:=Y7 hx5
      obtain ⟨σ,he,hp,hb,hn⟩:=uF (fun _ _=>qp) hpre
      simp only [Option.some.injEq,Prod.mk.injEq,true_and] at he
      subst he
      obtain ⟨wf1,-,go1⟩:=dh (w0:=w) (Nat.zero_le _) mixed okC (aY hE) (pcB aU) _ _ _ hx1 (rP (FD _ neg) u)
      obtain ⟨wf2,-,g1⟩:=dh (w0:=w) (Nat.zero_le _) mixed okC (aY hE) (qr1 qR) _ _ _ y1 wf1
      obtain ⟨wf3,-,g2⟩:=dh (w0:=w) (Nat.zero_le _) mixed okC (aY hE) (qr2 qR) _ _ _ y2 wf2
      obtain ⟨wf4,-,g3⟩:=dh (w0:=w) (Nat.zero_le _) mixed okC (aY hE) (qr3 qR) _ _ _ y3 wf3
      obtain ⟨wf5,-,g4⟩:=dh (w0:=w) (Nat.zero_le _) mixed okC (aY hE) (qr4 qR) _ _ _ y4 wf4
      obtain ⟨wf6,-,g5⟩:=dh (w0:=w) (Nat.zero_le _) mixed okC (aY hE) (qr5 qR) _ _ _ hx6 wf5
      rw [rounds_succ]
      refine go1 ρ a W _ hs fun ρ1 a1 W1 _ s1=>?_
      show (pcR aU).wp Tryz.prog (bodyPost Tryz.prog aU Q) a1 W1
      rw [show pcR aU=_ from XY]
      refine wp_seq (g1 ρ1 a1 W1 _ s1 fun ρ2 a2 W2 _ s2=>wp_seq (g2 ρ2 a2 W2 _ s2 fun ρ3 a3 W3 _ s3=>wp_seq (g3 ρ3 a3 W3 _ s3 fun ρ4 a4 W4 _ s4=>wp_seq (wp_seq (g4 ρ4 a4 W4 _ s4 fun ρ5 a5 W5 _ s5=>wp_cond_true (aP hop fun t v h=>by simp only [Option.some.injEq] at h;subst h;exact s5.rg t) (wp_seq (wp_seq (g5 ρ5 a5 W5 _ s5 fun ρ6 a6 W6 _ s6=>wp_block (wp_loop_rounds (m+1) ?_)))))))))
      refine yX (Sj:=fun i=>SQ (paB l s (ak s+1+i))) (eqF:=fun _=>jk) (Hj:=fun i=>HTi (paB l s (ak s+1+i)) {} (bP _) (paT (paM s (ak s+1+i))) (okT i) psX (okX' i) (paL (paM s (ak s+1+i))) (okL' i)) (cj:=fun i=>zpC (paB l s (ak s+1+i))) (E:=EV) (n:=m) (fu:=1) (p:=psP neg) (bx:=fun _=>psK) (fs:=fun _=>psF) (base:=10) (m1:=fun _=>psm) (need:=fun _=>psn) (w:=w)
       (fun _ _ _ h=>qp h) mixed (fun i=>OH) (fun i=>L8 _ _) (fun i hi u=>XQ _ neg (decide_eq_true (by omega)) (okT i) (okX' i) (okL' i) u) (fun _=>Nat.zero_le _) (aY hE) (fun i hi ρ W h=>?_) (fun u ρ a W hs=>?_) m 0 (by omega) _ _ _ _ (uN hp hb s6 fun f hm=>?_)
      ·have q1:=h (Fc.tx 0 (.v 1)) (.head _)
       have q2:=h (Fc.i 3 (.v 3)) (.tail _ (.head _))
       have q3:=h (Fc.i 4 (.v 4)) (.tail _ (.tail _ (.head _)))
       have q4:=h (Fc.i 586 (.v 7)) (.tail _ (.tail _ (.tail _ (.head _))))
       have q5:=h (Fc.z 8 (.v 12) 1001) (.tail _ (.tail _ (.tail _ (.tail _ (.head _)))))
       have q6:=h (Fc.z 394 (.mul (.v 14) (.c 10)) 1002) (.tail _ (.tail _ (.tail _ (.tail _ (.tail _ (.head _))))))
       show ∀ f∈[Fc.tx 0 (.v 1),.i 3 (.v 3),.i 4 (.v 4),.i 5 (.v 5),.z 8 (.v 12) 1001,.z 9 (.v 14) 1001],Fc.on (paB l s (ak s+1+(i+1))) (dF psm ρ) f W
       simp only [List.forall_mem_cons,List.not_mem_nil,false_imp_iff,implies_true,and_true]
       refine ⟨q1,jr W q2 rfl ?_,jr W q3 rfl ?_,jr W q4 rfl rfl,AV W q5 rfl rfl fun _ _ h=>h,AV W q6 rfl ?_ fun z hz _=>?_⟩
       ·show ((atJ s (ak s+1+i):Int):Rat)=((atJ s (ak s+1+(i+1)):Int):Rat)
        rw [atp,atp]
       ·show (((sgJ s (ak s+1+i)).toNat:Int):Rat)=(((sgJ s (ak s+1+(i+1))).toNat:Int):Rat)
        rw [sgp,sgp]
       ·show (((10 ^ (ak s+1+i - (ak s+1)):Nat):Int):Rat)*((10:Int):Rat)=(((10 ^ (ak s+1+(i+1) - (ak s+1)):Nat):Int):Rat)
        rw [show ak s+1+i - (ak s+1)=i by omega,show ak s+1+(i+1) - (ak s+1)=i+1 by omega,← Rat.intCast_mul,Nat.pow_succ]
        rfl
       ·have hz':(z:Rat)=(((10 ^ (ak s+1+(i+1) - (ak s+1)):Nat):Int):Rat):=hz
        have hk:ak s+1+(i+1) - (ak s+1)<1001:=by omega
        rw [intCast_inj hz',Int.natAbs_natCast]
        exact iJ (K:=1001) hk
      ·obtain ⟨v,fs,he,hr⟩:=Ku (XO _ neg dz okh ok okX okL u)
       unfold JB at he
       split at he
       ·rename_i υ1 z1
        split at he
        ·rename_i υ2 z2
         split at he
         ·rename_i υ3 z3
          split at he
          ·rename_i rl hrl
           obtain ⟨hv,hfs⟩:=Prod.mk.inj (Option.some.inj he)
           obtain ⟨v1,-,k1⟩:=dh (w0:=w) (Nat.zero_le _) mixed okC (aY hE) (qrB qR) _ _ _ z1 (rP (L8 _ neg) u)
           obtain ⟨v2,-,k2⟩:=dh (w0:=w) (Nat.zero_le _) mixed okC (aY hE) (qr6 qR) _ _ _ z2 v1
           obtain ⟨-,-,k3⟩:=dh (w0:=w) (Nat.zero_le _) mixed okC (aY hE) (qr7 qR) _ _ _ z3 v2
           rw [rounds_succ]
           refine k1 ρ a W _ hs fun ρ1 a1 W1 _ t1=>?_
           show (qr6 qR).wp Tryz.prog _ a1 W1
           refine k2 ρ1 a1 W1 _ t1 fun ρ2 a2 W2 _ t2=>?_
           show (qr7 qR).wp Tryz.prog _ a2 W2
           refine k3 ρ2 a2 W2 _ t2 fun ρ3 a3 W3 _ t3=>?_
           have hr3:=wS t3 hrl
           rw [hv] at hr3
           exact bodyPost_ret hr3 t3.df (hQ v fs hr ρ3 W3 t3.bel (by rw [← hfs];exact t3.fc))
          ·cases he
         ·cases he
        ·cases he
       ·cases he
      ·revert f
       show ∀ f∈[Fc.tx 0 (.v 1),.i 3 (.v 3),.i 4 (.v 4),.i 5 (.v 5),.z 8 (.v 12) 1001,.z 9 (.v 14) 1001],Fc.on (paB l s (ak s+1+0)) (dF L9 ρ6) f W6
       have h:∀ f∈Mc,Fc.on (paB l s (ak s+1+m)) ρ6 f W6:=fun f hf=>s6.fc f (hn f hf)
       have q1:=h (Fc.tx 0 (.v 1)) (.head _)
       have q2:=h (Fc.i 3 (.v 3)) (.tail _ (.head _))
       have q3:=h (Fc.i 4 (.v 4)) (.tail _ (.tail _ (.head _)))
       have q4:=h (Fc.i 3014 (.v 9)) (.tail _ (.tail _ (.tail _ (.head _))))
       have q5:=h (Fc.z 2310 (.v 12) 1001) (.tail _ (.tail _ (.tail _ (.tail _ (.head _)))))
       have q6:=h (Fc.z 2374 (.c 1) 1) (.tail _ (.tail _ (.tail _ (.tail _ (.tail _ (.head _))))))
       simp only [List.forall_mem_cons,List.not_mem_nil,false_imp_iff,implies_true,and_true]
       refine ⟨q1,jr W6 q2 rfl ?_,jr W6 q3 rfl ?_,jr W6 q4 rfl rfl,AV W6 q5 rfl rfl fun _ _ h=>h,AV W6 q6 rfl ?_ fun z hz _=>?_⟩
       ·show ((atJ s (ak s+1+m):Int):Rat)=((atJ s (ak s+1+0):Int):Rat)
        rw [atp,atp]
       ·show (((sgJ s (ak s+1+m)).toNat:Int):Rat)=(((sgJ s (ak s+1+0)).toNat:Int):Rat)
        rw [sgp,sgp]
       ·show ((1:Int):Rat)=(((10 ^ (ak s+1+0 - (ak s+1)):Nat):Int):Rat)
        rw [show ak s+1+0 - (ak s+1)=0 by omega]
        rfl
       ·have hz':(z:Rat)=(((10 ^ (ak s+1+0 - (ak s+1)):Nat):Int):Rat):=hz
        have hk:ak s+1+0 - (ak s+1)<1001:=by omega
        rw [intCast_inj hz',Int.natAbs_natCast]
        exact iJ (K:=1001) hk
     ·cases hx
    ·cases hx
   ·cases hx
  ·cases hx
 ·cases hpre
end Rx
namespace Rx
open Go.RowKit
section
variable {l s:List UInt8}
theorem Gl (s:List UInt8):ak s≤s.length:=List.findIdx_le_length
theorem Ir (s:List UInt8):atJ s s.length=ak s:=by
 have:=Gl s
 unfold atJ
 split
 ·omega
 ·rfl
theorem MH {s:List UInt8} (h:dD s≤1):ak s<s.length:=by
 rcases Nat.lt_or_ge (ak s) s.length with hl | hl
 ·exact hl
 ·unfold dD at h
  rw [List.getElem?_eq_none hl] at h
  exact absurd h (by decide)
theorem XZ (s:List UInt8):dD s<3:=by
 unfold dD
 split
 ·split <;> decide
 ·decide
theorem NI (s:List UInt8):(sgJ s s.length == 47)=decide (dD s=0)∧(sgJ s s.length == 46)=decide (dD s=1):=by
 rcases Nat.lt_or_ge (ak s) s.length with hl | hl
 ·obtain ⟨x,hx,hs⟩:=Am hl
  have h1:sgJ s s.length=x:=by rw [sgJ,if_neg (by omega),List.getD,hx];rfl
  have h2:dD s=if x=47 then 0 else 1:=by unfold dD;rw [hx]
  have hx2:x=47∨x=46:=by simpa [qK] using hs
  rw [h1,h2]
  rcases hx2 with rfl | rfl <;> decide
 ·have h1:sgJ s s.length=0:=by rw [sgJ,if_pos hl]
  have h2:dD s=2:=by unfold dD;rw [List.getElem?_eq_none hl]
  rw [h1,h2]
  decide
theorem XH (hl:s.length≤1000) {K:PqK} (hκ:K.κ=dD s):K.X.Ok (paB l s s.length):=by
 have t1:txt ((RE.v 1).ev (paB l s s.length))=s:=bI s
 have t10:txt ((RE.v 10).ev (paB l s s.length))=s.take (ak s):=bI _
 have t11:txt ((RE.v 11).ev (paB l s s.length))=s.drop (ak s+1):=bI _
 refine ⟨fun p hp=>?_,fun p h=>(by cases h),fun p h=>(by cases h),fun p hp=>?_,fun p hp=>?_,fun p h=>(by cases h),?_⟩
 ·obtain rfl:=List.mem_singleton.1 hp
  rw [t1]
  exact ⟨by omega,rfl⟩
 ·unfold PqK.X at hp
  dsimp only at hp
  split at hp
  ·rename_i h
   obtain rfl:=List.mem_singleton.1 hp
   have:=MH (s:=s) (by omega)
   exact ⟨ak s+1,rfl,by rw [t1];omega,by rw [t1,t11]⟩
  ·cases hp
 ·obtain rfl:=List.mem_singleton.1 hp
  refine ⟨ak s,?_,by rw [t1];exact Gl s,by rw [t1,t10]⟩
  show _=((atJ s s.length:Int):Rat)
  rw [Ir]
 ·simp only [PqK.X,List.forall_mem_cons,List.not_mem_nil,false_imp_iff,implies_true,and_true]
  refine ⟨fun x y hx hy=>?_,fun x y hx hy=>?_⟩
  ·obtain rfl:x=((sgJ s s.length).toNat:Int):=intCast_inj hx
   obtain rfl:y=47:=intCast_inj hy
   rw [uT _ 47 47 rfl,(NI s).1,hκ]
  ·obtain rfl:x=((sgJ s s.length).toNat:Int):=intCast_inj hx
   obtain rfl:y=46:=intCast_inj hy
   rw [uT _ 46 46 rfl,(NI s).2,hκ]
theorem XG (hl:s.length≤1000) {K:PqK}:dH (paB l s s.length) K.L:=by
 have:=Gl s
 intro p hp x hx
 unfold PqK.L at hp
 split at hp
 ·obtain rfl:=List.mem_singleton.1 hp
  have hx':(x:Rat)=((atJ s s.length:Int):Rat):=hx
  rw [Ir] at hx'
  obtain rfl:=intCast_inj hx'
  exact ⟨by omega,by omega,rfl⟩
 ·cases hp
theorem XI {K:PqK} (hd:K.dz=(dv (s.drop (ak s+1)) == 0)):K.h.Ok (paB l s s.length):=by
 refine ⟨fun p hp=>?_,fun p h=>(by cases h),fun p hp=>?_,fun p h=>(by cases h),fun p h=>(by cases h)⟩
 ·unfold PqK.h at hp
  dsimp only at hp
  split at hp
  ·rename_i h
   simp only [Bool.and_eq_true,decide_eq_true_eq] at h
   obtain rfl:=List.mem_singleton.1 hp
   have h0:=hd ▸ h.2
   show ((dv (s.drop (ak s+1)):Int):Rat)=((0:Int):Rat)
   rw [eq_of_beq h0];rfl
  ·cases hp
 ·unfold PqK.h at hp
  dsimp only at hp
  rcases List.mem_append.1 hp with hp | hp
  ·split at hp
   ·rename_i h
    simp only [Bool.and_eq_true,decide_eq_true_eq,Bool.not_eq_true'] at h
    obtain rfl:=List.mem_singleton.1 hp
    have h0:=h.2
    rw [hd,beq_eq_false_iff_ne] at h0
    show ((dv (s.drop (ak s+1)):Int):Rat)≠0
    intro hc
    have:=intCast_inj (hc.trans (show (0:Rat)=((0:Int):Rat) from rfl))
    omega
   ·cases hp
  ·split at hp
   ·obtain rfl:=List.mem_singleton.1 hp
    show (((10 ^ (s.length - (ak s+1)):Nat):Int):Rat)≠0
    intro hc
    have:=intCast_inj (hc.trans (show (0:Rat)=((0:Int):Rat) from rfl))
    have h1:=Nat.pow_pos (a:=10) (n:=s.length - (ak s+1)) (by decide)
    omega
   ·cases hp
theorem XF (hl:s.length≤1000) {K:PqK} (hκ:K.κ=dD s) (ht:K.t=bY (s.take (ak s))) (hu:K.u=if dD s=0 then bY (s.drop (ak s+1)) else aK (s.drop (ak s+1))) (okh:K.h.Ok (paB l s s.length)):∀ c∈K.C (paB l s s.length),c.Ok Tryz.prog (SQ (paB l s s.length)) EV:=by
 have t10:txt ((RE.v 10).ev (paB l s s.length))=s.take (ak s):=bI _
 have t11:txt ((RE.v 11).ev (paB l s s.length))=s.drop (ak s+1):=bI _
 have l10:(s.take (ak s)).length≤1000:=by rw [List.length_take];omega
 have l11:(s.drop (ak s+1)).length≤1000:=by rw [List.length_drop];omega
 unfold PqK.C
 simp only [List.forall_mem_cons,List.not_mem_nil,false_imp_iff,implies_true,and_true]
 refine ⟨yh fun p hp W hE=>?_,yh fun p hp W hE=>?_,Ro fun p hp=>?_,I9,Ja,I8,Rq,QY okh⟩
 ·rcases List.mem_cons.1 hp with rfl | hp
  ·rw [t10,ht]
   exact J9 (by omega) hE
  ·split at hp
   ·rename_i h
    obtain rfl:=List.mem_singleton.1 hp
    rw [t11,hu,if_pos (by omega)]
    exact J9 (by omega) hE
   ·cases hp
 ·split at hp
  ·rename_i h
   obtain rfl:=List.mem_singleton.1 hp
   rw [t11,hu,if_neg (by omega)]
   exact Jm (by omega) hE
  ·cases hp
 ·rcases List.mem_append.1 hp with hp | hp
  ·split at hp
   ·rename_i h
    obtain rfl:=List.mem_singleton.1 hp
    have hd:=oL (ht ▸ h)
    exact ⟨by rw [t10];exact hd,by rw [t10];exact l10,by rw [t10];rfl,Nat.lt_of_le_of_lt (Nat.le_of_eq (congrArg dv t10)) (Nat.lt_trans (ku _ hd) (iJ (show _<1001 from Nat.lt_succ_of_le l10)))⟩
   ·cases hp
  ·split at hp
   ·rename_i h
    simp only [Bool.and_eq_true,decide_eq_true_eq] at h
    obtain rfl:=List.mem_singleton.1 hp
    have hd:(s.drop (ak s+1)).all aN=true:=by
     have h2:=h.2
     rw [hu] at h2
     split at h2
     ·exact oL h2
     ·exact Ed h2
    exact ⟨by rw [t11];exact hd,by rw [t11];exact l11,by rw [t11];rfl,Nat.lt_of_le_of_lt (Nat.le_of_eq (congrArg dv t11)) (Nat.lt_trans (ku _ hd) (iJ (show _<1001 from Nat.lt_succ_of_le l11)))⟩
   ·cases hp
end
def pqK (l:List UInt8):PqK where
 κ:=dD (aA l)
 neg:=ngL l
 t:=bY ((aA l).take (ak (aA l)))
 u:=if dD (aA l)=0 then bY ((aA l).drop (ak (aA l)+1)) else aK ((aA l).drop (ak (aA l)+1))
 dz:=dv ((aA l).drop (ak (aA l)+1)) == 0
theorem RD (l:List UInt8):(aA l).length≤l.length:=by
 rw [aA]
 split
 ·rw [List.length_drop];omega
 ·omega
theorem last_any {l s:List UInt8} (hl:s.length≤1000) {K:PqK} (hκ:K.κ=dD s) (okh:K.h.Ok (paB l s s.length)) (okX:K.X.Ok (paB l s s.length)) (okL:dH (paB l s s.length) K.L) (okC:∀ c∈K.C (paB l s s.length),c.Ok Tryz.prog (SQ (paB l s s.length)) EV)
  {w:World} (hE:EV w) {u:Nat→Value} {ρ:Env} {a:Act} {W:World} (hs:State.Says (S:=SQ (paB l s s.length)) ⟨bD (paP K.neg) u 0,paK,paF,6⟩ w ρ a W) :
  Code.rounds Tryz.prog (pcB aU) (Exit.inBlock 0 (Exit.then ((pcR aU).wp Tryz.prog (bodyPost Tryz.prog aU (rY w (K.res.2.ev (paB l s s.length)) K.res.1))) (bodyPost Tryz.prog aU (rY w (K.res.2.ev (paB l s s.length)) K.res.1)))) 1 a W:=by
 obtain ⟨κ,neg,t,u',dz⟩:=K
 have hκ3:κ<3:=by have:=XZ s;simp only at hκ;omega
 by_cases h1:κ=1∧(t && u')=true
 ·obtain ⟨rfl,h2⟩:=h1
  rw [Bool.and_eq_true] at h2
  obtain ⟨rfl,rfl⟩:=h2
  have hp:=MH (s:=s) (Nat.le_of_eq hκ.symm)
  obtain ⟨m,hm⟩:∃ m,s.length=ak s+1+m:=⟨s.length - (ak s+1),by omega⟩
  rw [hm] at okh okX okL okC hs ⊢
  exact last2 hl hm okh okX okL okC hE (fun v fs hr ρ' W' hb hf=>Kt hr hf hb) hs
 ·have h2:κ=1→(t && u')=false:=fun h=>by
   cases hb:(t && u') with
   | false=>rfl
   | true=>exact absurd ⟨h,hb⟩ h1
  have ok:(paT false).Ok (paB l s s.length):=by
   have:=FC (l:=l) (s:=s) (j:=s.length)
   rwa [paM,decide_eq_false (by omega)] at this
  obtain ⟨v,fs,he,hr⟩:=Ku (YB (paB l s s.length) κ hκ3 neg t u' dz h2 okh ok okX okL u)
  exact KA mixed okC (rP (FD _ neg) u) he (Nat.zero_le _) (aY hE) (fun ρ' W' hb hf=>Kt hr hf hb) hs
theorem YA {l:List UInt8} (hl:l.length≤1000) {w:World} (hE:EV w):Calls Tryz.prog 29 #[.string ⟨l.toArray⟩] w (rY w ((pqK l).res.2.ev (paB l (aA l) (aA l).length)) (pqK l).res.1):=by
 have hc:=RD l
 have okh:(pqK l).h.Ok (paB l (aA l) (aA l).length):=XI rfl
 exact Yz (by omega) hE fun u ρ a W hs=>last_any (K:=pqK l) (by omega) rfl okh (XH (by omega) rfl) (XG (by omega)) (XF (by omega) rfl rfl rfl okh) hE hs
theorem aa4 {β β':Nat→Rat} {neg z:Bool} {tp dn sz dn':RE} {N D:Rat} (e1:tp.ev β=N) (e2:dn.ev β=D) (e3:sz.ev β' = N) (e4:dn'.ev β' = D) (hz:z=true→N=0):(RE.div (if neg then .neg tp else tp) dn).ev β=(if neg && !z then RE.div (.neg sz) dn' else .div sz dn').ev β':=by
 cases neg <;> cases z
 ·show tp.ev β / dn.ev β=sz.ev β' / dn'.ev β'
  rw [e1,e2,e3,e4]
 ·show tp.ev β / dn.ev β=sz.ev β' / dn'.ev β'
  rw [e1,e2,e3,e4]
 ·show -tp.ev β / dn.ev β = -sz.ev β' / dn'.ev β'
  rw [e1,e2,e3,e4]
 ·show -tp.ev β / dn.ev β=sz.ev β' / dn'.ev β'
  rw [e1,e2,e3,e4,hz rfl,Rat.neg_zero]
theorem RF (l:List UInt8):Lib.hasPrefix l [45]=ngL l∧Lib.trimPrefix l [45]=aA l:=by
 have h1:Lib.hasPrefix l [45]=ngL l:=by
  cases l with
  | nil=>rfl
  | cons x r =>
   show ((45:UInt8) == x && List.isPrefixOf [] r)=(true && x == 45)
   rw [Bool.true_and]
   by_cases h:x=45
   ·subst h;cases r <;> rfl
   ·rw [beq_eq_false_iff_ne.2 h,beq_eq_false_iff_ne.2 (Ne.symm h)];rfl
 refine ⟨h1,?_⟩
 unfold Lib.trimPrefix aA
 rw [h1]
 rfl
def Same (p q:Int×Rat):Prop:=(p.1=4∧q.1=1∧p.2=0)∨(p.1=9∧q.1=2∧p.2=0)∨(p.1=0∧q.1=0∧p.2=q.2)
theorem Gg {K:PrK} {K':PqK} {β β':Nat→Rat} {N D:Rat} (hb:K'.bad=(!K.t || (decide (K.κ≤1) && !K.u))) (hd:(decide (K'.κ=0) && K'.dz)=(decide (K.κ=0) && K.dz)) (hn:K.neg=K'.neg)
  (e1:K'.bad=false→K'.top.ev β=N) (e2:K'.den.ev β=D) (e3:K'.bad=false→K.sz.ev β' = N) (e4:K.dn.ev β' = D) (hz:K'.bad=false→K.z=true→N=0):Same (K.res.1,K.res.2.ev β') (K'.res.1,K'.res.2.ev β):=by
 unfold PrK.res PqK.res
 rw [← hb,← hd]
 by_cases h1:K'.bad=true
 ·rw [if_pos h1,if_pos h1]
  exact .inl ⟨rfl,rfl,rfl⟩
 ·rw [if_neg h1,if_neg h1]
  have h1':K'.bad=false:=by simpa using h1
  by_cases h2:(decide (K'.κ=0) && K'.dz)=true
  ·rw [if_pos h2,if_pos h2]
   exact .inr (.inl ⟨rfl,rfl,rfl⟩)
  ·rw [if_neg h2,if_neg h2]
   refine .inr (.inr ⟨rfl,rfl,?_⟩)
   rw [hn]
   exact (aa4 (e1 h1') e2 (e3 h1') e4 (hz h1')).symm
theorem Yc {l:List UInt8} (hl:l.length≤1000):Same (fU l) ((pqK l).res.1,(pqK l).res.2.ev (paB l (aA l) (aA l).length)):=by
 obtain ⟨c1,c2⟩:=RF l
 unfold fU
 rw [if_neg (by omega),c2]
 have hκ:(prK l).κ=kOf (aA l):=by unfold prK;rw [c2]
 have hng:(prK l).neg=(pqK l).neg:=c1
 have ht:(prK l).t=bY (dM (aA l)):=by unfold prK;rw [c2]
 have hu:(prK l).u=if kOf (aA l)=0 then bY (dZ (aA l)) else aK (dZ (aA l)):=by unfold prK;rw [c2]
 have hd:(prK l).dz=(dv (dZ (aA l)) == 0):=by unfold prK;rw [c2]
 have hz:(prK l).z=(dv (if kOf (aA l)=1 then dM (aA l) ++ dZ (aA l) else dM (aA l)) == 0):=by unfold prK;rw [c2]
 have qκ:(pqK l).κ=dD (aA l):=rfl
 have qt:(pqK l).t=bY ((aA l).take (ak (aA l))):=rfl
 have qu:(pqK l).u=if dD (aA l)=0 then bY ((aA l).drop (ak (aA l)+1)) else aK ((aA l).drop (ak (aA l)+1)):=rfl
 have qd:(pqK l).dz=(dv ((aA l).drop (ak (aA l)+1)) == 0):=rfl
 generalize prK l=K at *
 generalize pqK l=K' at *
 generalize aA l=s at *
 have zero:∀ {n:Nat} {b:Bool},b=(n == 0)→b=true→((n:Int):Rat)=0:=fun {n b} h1 h2=>by
  rw [h2] at h1
  rw [eq_of_beq h1.symm];rfl
 rcases kinds s with ⟨k1,k2,k3⟩ | ⟨k1,k2,k3,k4,k5⟩ | ⟨k1,k2,⟨k3,k4,k5⟩ | ⟨k3,k4,k5⟩⟩
 ·have htop:dM s=s:=by unfold dM;rw [if_neg (by omega),if_neg (by omega)]
  rw [k3,if_neg (by decide),htop] at hz
  refine Gg (N:=((dv s:Int):Rat)) (D:=((1:Int):Rat)) ?_ ?_ hng (fun _=>?_) ?_ (fun _=>?_) ?_ fun _=>zero hz
  ·unfold PqK.bad
   rw [ht,qt,hκ,qκ,k1,k3,htop,k2,List.take_length]
   rfl
  ·rw [hκ,qκ,k1,k3];rfl
  ·unfold PqK.top
   rw [qκ,k1,if_neg (by decide)]
   show ((dv (s.take (ak s)):Int):Rat)=_
   rw [k2,List.take_length]
  ·unfold PqK.den
   rw [qκ,k1,if_neg (by decide),if_neg (by decide)]
   rfl
  ·unfold PrK.sz
   rw [hκ,k3,if_neg (by decide)]
   show ((dv (dM s):Nat):Rat)=_
   rw [htop];rfl
  ·unfold PrK.dn
   rw [hκ,k3,if_neg (by decide),if_neg (by decide)]
   rfl
 ·rw [k3,if_neg (by decide),k4] at hz
  rw [k3,if_pos rfl,k5] at hu
  rw [k1,if_pos rfl] at qu
  rw [k5] at hd
  rw [k4] at ht
  refine Gg (N:=((dv (s.take (ak s)):Int):Rat)) (D:=((dv (s.drop (ak s+1)):Int):Rat)) ?_ ?_ hng (fun _=>?_) ?_ (fun _=>?_) ?_ fun _=>zero hz
  ·unfold PqK.bad
   rw [ht,qt,hu,qu,hκ,qκ,k1,k3]
  ·rw [hκ,qκ,k1,k3,hd,qd]
  ·unfold PqK.top
   rw [qκ,k1,if_neg (by decide)]
   rfl
  ·unfold PqK.den
   rw [qκ,k1,if_pos rfl]
   rfl
  ·unfold PrK.sz
   rw [hκ,k3,if_neg (by decide)]
   show ((dv (dM s):Nat):Rat)=_
   rw [k4];rfl
  ·unfold PrK.dn
   rw [hκ,k3,if_pos rfl]
   show ((dv (dZ s):Nat):Rat)=_
   rw [k5];rfl
 ·rw [k3,if_pos rfl,k4,k5] at hz
  rw [k3,if_neg (by decide),k5] at hu
  rw [k1,if_neg (by decide)] at qu
  rw [k4] at ht
  refine Gg (N:=((dv (s.take (ak s) ++ s.drop (ak s+1)):Int):Rat)) (D:=(((10 ^ (s.length - (ak s+1)):Nat):Int):Rat)) ?_ ?_ hng (fun _=>?_) ?_ (fun _=>?_) ?_ fun _=>zero hz
  ·unfold PqK.bad
   rw [ht,qt,hu,qu,hκ,qκ,k1,k3]
  ·rw [hκ,qκ,k1,k3];rfl
  ·unfold PqK.top
   rw [qκ,k1,if_pos rfl]
   show ((dv (s.take (ak s)):Int):Rat)*(((10 ^ (s.length - (ak s+1)):Nat):Int):Rat)+((dv (s.drop (ak s+1)):Int):Rat)=_
   rw [← Rat.intCast_mul,← Rat.intCast_add,Ef,List.length_drop]
   rfl
  ·unfold PqK.den
   rw [qκ,k1,if_neg (by decide),if_pos rfl]
   rfl
  ·unfold PrK.sz
   rw [hκ,k3,if_pos rfl]
   show ((dv (dM s ++ dZ s):Nat):Rat)=_
   rw [k4,k5];rfl
  ·unfold PrK.dn
   rw [hκ,k3,if_neg (by decide),if_pos rfl]
   show ((10 ^ (dZ s).length:Nat):Rat)=_
   rw [k5,List.length_drop];rfl
 ·left
  rw [k1,if_neg (by decide),k5] at qu
  rw [k4] at ht
  unfold PrK.res PqK.res PqK.bad
  rw [ht,hκ,k3,qκ,k1,qu]
  cases K'.t <;> exact ⟨rfl,rfl,rfl⟩
end Rx
end Go.Proofs.YtancpaiaoamjlaaGreatDoor
