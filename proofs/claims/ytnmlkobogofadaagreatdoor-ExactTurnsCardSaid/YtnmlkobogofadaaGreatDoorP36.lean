/- What the proof rests on, part 36: Straight code over the numbers: callees' contracts. Straight code over the numbers: functions whose run over names ends in a number, a pair, a truth. Straight code over the numbers: points and rotations, and what the laws call. -/
import Derived.Test.YtnmlkobogofadaaGreatDoorP35
namespace Go.Proofs.YtnmlkobogofadaaGreatDoor
theorem rat_add_mk (r s:Rat):mkRat (r.num*s.den+s.num*r.den) (r.den*s.den)=r+s:=by
 have:=Rat.mkRat_add_mkRat r.num s.num r.den_nz s.den_nz
 rw [Rat.mkRat_self,Rat.mkRat_self] at this
 exact this.symm
theorem Fits.plus {a b:Nat} {r s:Rat} (h:Fits a r) (k:Fits b s):Fits (a+b+1) (r+s):=by
 have h0:r.den*s.den≠0:=Nat.mul_ne_zero r.den_nz s.den_nz
 obtain ⟨h1,-,h3⟩:=Z4.q_parts (r.num*s.den+s.num*r.den) (r.den*s.den) _ h0 rfl
 rw [rat_add_mk] at h1 h3
 have hp:B64 ^ (a+b)*2≤B64 ^ (a+b+1):=by rw [Nat.pow_succ];exact Nat.mul_le_mul_left _ (by decide)
 have e1:r.num.natAbs*s.den<B64 ^ (a+b):=by rw [Nat.pow_add];exact Nat.mul_lt_mul'' h.1 k.2
 have e2:s.num.natAbs*r.den<B64 ^ (a+b):=by rw [Nat.pow_add,Nat.mul_comm (B64 ^ a)];exact Nat.mul_lt_mul'' k.1 h.2
 have e3:r.den*s.den<B64 ^ (a+b):=by rw [Nat.pow_add];exact Nat.mul_lt_mul'' h.2 k.2
 have e4:(r.num*(s.den:Int)+s.num*(r.den:Int)).natAbs≤r.num.natAbs*s.den+s.num.natAbs*r.den:=by
  refine Nat.le_trans (Int.natAbs_add_le _ _) ?_
  rw [Int.natAbs_mul,Int.natAbs_mul,Int.natAbs_natCast,Int.natAbs_natCast]
  exact Nat.le_refl _
 refine ⟨?_,?_⟩
 ·rw [h1];have:=Nat.div_le_self (r.num*(s.den:Int)+s.num*(r.den:Int)).natAbs (Nat.gcd (r.num*(s.den:Int)+s.num*(r.den:Int)).natAbs (r.den*s.den));omega
 ·rw [h3];have:=Nat.div_le_self (r.den*s.den) (Nat.gcd (r.num*(s.den:Int)+s.num*(r.den:Int)).natAbs (r.den*s.den));omega
theorem Fits.minus {a b:Nat} {r s:Rat} (h:Fits a r) (k:Fits b s):Fits (a+b+1) (r - s):=by
 rw [Rat.sub_eq_add_neg]
 exact h.plus k.neg
theorem Fits.over {a b:Nat} {r s:Rat} (h:Fits a r) (k:Fits b s):Fits (a+b+1) (r / s):=by
 by_cases hs:s=0
 ·subst hs
  rw [Rat.div_def,Rat.inv_zero,Rat.mul_zero]
  have:=Nat.one_lt_pow (show a+b+1≠0 by omega) (show 1<B64 by decide)
  exact ⟨by show 0<_;omega,by show 1<_;omega⟩
 ·rw [Rat.div_def]
  exact (h.mul (k.inv hs)).mono (by omega)
theorem fits_int {n:Int} (h1:-9223372036854775808≤n) (h2:n≤9223372036854775807):Fits 1 (n:Rat):=
 ⟨by rw [Nat.pow_one];show n.natAbs<B64;unfold B64;omega,by rw [Nat.pow_one];show 1<B64;decide⟩
namespace Rx
open Go.RowKit
abbrev EV:World→Prop:=fun W=>Go.Proofs.YtnmlkobogofadaaGreatDoor.Env W
abbrev K0:Nat:=1073741824
def setL (ρ:Env) (b:Nat) (L:List Nv):Env:=fun n=>if b≤n then L[n - b]?.getD (ρ n) else ρ n
theorem setL_out {ρ:Env} {b:Nat} {L:List Nv} (hL:L.length≤M):∀ n,n<b∨b+M≤n→setL ρ b L n=ρ n:=fun n hn=>by
 unfold setL
 split
 ·rw [List.getElem?_eq_none (by simp only [M] at *;omega)];rfl
 ·rfl
def qv (c d:Nv):Value:=.agg #[.bool c.b,.int .u64 c.u,.slice c.p c.l c.c,.int .u64 d.u,.slice d.p d.l d.c]
theorem qv_of {W:World} {v:Value} {r:Rat} (h:IsQ W v r):∃ c d:Nv,v=qv c d:=by
 obtain ⟨t,x,p,l,q,y,r,s,u,rfl⟩:=h.open
 exact ⟨⟨t,x,p,l,q,.empty,0⟩,⟨false,y,r,s,u,.empty,0⟩,rfl⟩
theorem rv_of {W:World} {v:Value} {r:Rat} (h:Z4.IsR W v r):∃ c d:Nv,v=.agg #[.bool c.b,.slice c.p c.l c.c,.bool false,.slice d.p d.l d.c]:=by
 obtain ⟨t,p,l,q,r,s,u,rfl⟩:=h.open
 exact ⟨⟨t,0,p,l,q,.empty,0⟩,⟨false,0,r,s,u,.empty,0⟩,rfl⟩
section
variable {β:Nat→Rat} {f:FuncId} {vals:Array Value} {W:World} {ρ:Env} {b:Nat}
def Ans (β:Nat→Rat) (ρ:Env) (b:Nat) (W:World) (res:SV) (new:List Fc) (e:Ending) (W':World):Prop:=
 ∃ ρ':Env,(∀ n,n<b∨b+M≤n→ρ' n=ρ n)∧e=.returned (res.den ρ')∧Below W.heap.size W W'∧∀ g∈new,(SQ β).on ρ' g W'
theorem ans_q {e:RE} {k:Nat} (hc:Calls Tryz.prog f vals W (RetQ W (e.ev β))) (hk:Fits k (e.ev β)):Calls Tryz.prog f vals W (Ans β ρ b W (.e (.a (numC b))) [.q b e k]):=by
 refine hc.mono fun _ W' ⟨v,he,hv,hb⟩=>?_
 obtain ⟨c,d,rfl⟩:=qv_of hv
 have h1:(numC b).map (Cell.den (setL ρ b [c,d]))=[.bool c.b,.int .u64 c.u,.slice c.p c.l c.c,.int .u64 d.u,.slice d.p d.l d.c]:=by simp [numC,Cell.den,setL]
 refine ⟨setL ρ b [c,d],setL_out (by simp [M]),?_,hb,fun g hg=>?_⟩
 ·rw [he];simp only [SV.den,El.den,h1];rfl
 ·rw [List.mem_singleton] at hg
  subst hg
  refine ⟨?_,hk⟩
  rw [h1];exact hv
theorem ans_qe {e:RE} {k:Nat} {c0:Int} (hc:Calls Tryz.prog f vals W (RetQE W (e.ev β) c0)) (hk:Fits k (e.ev β)):Calls Tryz.prog f vals W (Ans β ρ b W (.t [.a (numC b),.s (.it .i64 c0)]) [.q b e k]):=by
 refine hc.mono fun _ W' ⟨v,he,hv,hb⟩=>?_
 obtain ⟨c,d,rfl⟩:=qv_of hv
 have h1:(numC b).map (Cell.den (setL ρ b [c,d]))=[.bool c.b,.int .u64 c.u,.slice c.p c.l c.c,.int .u64 d.u,.slice d.p d.l d.c]:=by simp [numC,Cell.den,setL]
 refine ⟨setL ρ b [c,d],setL_out (by simp [M]),?_,hb,fun g hg=>?_⟩
 ·rw [he];simp only [SV.den,El.den,List.map_cons,List.map_nil,h1];rfl
 ·rw [List.mem_singleton] at hg
  subst hg
  refine ⟨?_,hk⟩
  rw [h1];exact hv
theorem ans_i {v:Value} {c:Cell} (hc:Calls Tryz.prog f vals W (RetI W v)) (hv:c.den ρ=v):Calls Tryz.prog f vals W (Ans β ρ b W (.e (.s c)) []):=by
 refine hc.mono fun _ W' ⟨he,hb⟩=>⟨ρ,fun _ _=>rfl,?_,hb,fun g hg=>by cases hg⟩
 rw [he,← hv];rfl
theorem ans_rot {e e':RE} {k k':Nat} (hc:Calls Tryz.prog f vals W (RetRot W (e.ev β) (e'.ev β))) (hk:Fits k (e.ev β)) (hk':Fits k' (e'.ev β)):Calls Tryz.prog f vals W (Ans β ρ b W (.e (.a (numC b ++ numC (b+2)))) [.q b e k,.q (b+2) e' k']):=by
 refine hc.mono fun _ W' ⟨v,he,hv,hb⟩=>?_
 obtain ⟨t6,x6,p6,l6,q6,y6,r6,s6,u6,t7,x7,p7,l7,q7,y7,r7,s7,u7,rfl,hv1,hv2⟩:=hv
 have h1:(numC b).map (Cell.den (setL ρ b [⟨t6,x6,p6,l6,q6,.empty,0⟩,⟨false,y6,r6,s6,u6,.empty,0⟩,⟨t7,x7,p7,l7,q7,.empty,0⟩,⟨false,y7,r7,s7,u7,.empty,0⟩]))=(c5 t6 x6 p6 l6 q6 y6 r6 s6 u6):=by simp [numC,Cell.den,setL]
 have h2:(numC (b+2)).map (Cell.den (setL ρ b [⟨t6,x6,p6,l6,q6,.empty,0⟩,⟨false,y6,r6,s6,u6,.empty,0⟩,⟨t7,x7,p7,l7,q7,.empty,0⟩,⟨false,y7,r7,s7,u7,.empty,0⟩]))=(c5 t7 x7 p7 l7 q7 y7 r7 s7 u7):=by
  simp [numC,Cell.den,setL,show b+2+1 - b=3 by omega,show b≤b+2+1 by omega]
 refine ⟨_,setL_out (b:=b) (L:=[⟨t6,x6,p6,l6,q6,.empty,0⟩,⟨false,y6,r6,s6,u6,.empty,0⟩,⟨t7,x7,p7,l7,q7,.empty,0⟩,⟨false,y7,r7,s7,u7,.empty,0⟩]) (by simp [M]),?_,hb,fun g hg=>?_⟩
 ·rw [he];simp only [SV.den,El.den,List.map_append,h1,h2];rfl
 ·simp only [List.mem_cons,List.not_mem_nil,or_false] at hg
  rcases hg with rfl | rfl
  ·refine ⟨?_,hk⟩
   rw [h1];exact hv1
  ·refine ⟨?_,hk'⟩
   rw [h2];exact hv2
theorem ans_b {e:RE} (hc:Calls Tryz.prog f vals W (RetB W (e.ev β))) (hk:Fits 4 (e.ev β)):Calls Tryz.prog f vals W (Ans β ρ b W (.t [.a (numC b),.a (refC (b+2))]) [.q b e 4,.r (b+2) e]):=by
 refine hc.mono fun _ W' ⟨v,v',he,hv,hv',hb⟩=>?_
 obtain ⟨c,d,rfl⟩:=qv_of hv
 obtain ⟨c',d',rfl⟩:=rv_of hv'
 have h1:(numC b).map (Cell.den (setL ρ b [c,d,c',d']))=[.bool c.b,.int .u64 c.u,.slice c.p c.l c.c,.int .u64 d.u,.slice d.p d.l d.c]:=by simp [numC,Cell.den,setL]
 have h2:(refC (b+2)).map (Cell.den (setL ρ b [c,d,c',d']))=[.bool c'.b,.slice c'.p c'.l c'.c,.bool false,.slice d'.p d'.l d'.c]:=by
  simp [refC,Cell.den,setL,show b+2+1 - b=3 by omega,show b≤b+2+1 by omega]
 refine ⟨setL ρ b [c,d,c',d'],setL_out (by simp [M]),?_,hb,fun g hg=>?_⟩
 ·rw [he];simp only [SV.den,El.den,List.map_cons,List.map_nil,h1,h2];rfl
 ·simp only [List.mem_cons,List.not_mem_nil,or_false] at hg
  rcases hg with rfl | rfl
  ·refine ⟨?_,hk⟩
   rw [h1];exact hv
  ·show Z4.IsR _ _ _
   rw [h2];exact hv'
end
def findQ:List Fc→Nat→Option (RE×Nat)
 | [],_=>none
 | .q s e k :: r,n=>if s=n then some (e,k) else findQ r n
 | _ :: r,n=>findQ r n
def findR:List Fc→Nat→Option RE
 | [],_=>none
 | .r s e :: r,n=>if s=n then some e else findR r n
 | _ :: r,n=>findR r n
def findN:List Fc→Nat→Option RE
 | [],_=>none
 | .n s e :: r,n=>if s=n then some e else findN r n
 | _ :: r,n=>findN r n
theorem findQ_mem {n:Nat} {e:RE} {k:Nat}:∀ {db:List Fc},findQ db n=some (e,k)→.q n e k∈db
 | [],h=>by simp [findQ] at h
 | f :: r,h=>by
  cases f with
  | q s e' k' =>
   simp only [findQ] at h
   split at h
   ·rename_i hs;cases h;subst hs;simp
   ·exact List.mem_cons_of_mem _ (findQ_mem h)
  | r _ _=>exact List.mem_cons_of_mem _ (findQ_mem h)
  | x _ _=>exact List.mem_cons_of_mem _ (findQ_mem h)
  | n _ _=>exact List.mem_cons_of_mem _ (findQ_mem h)
theorem findR_mem {n:Nat} {e:RE}:∀ {db:List Fc},findR db n=some e→.r n e∈db
 | [],h=>by simp [findR] at h
 | f :: r,h=>by
  cases f with
  | r s e' =>
   simp only [findR] at h
   split at h
   ·rename_i hs;cases h;subst hs;simp
   ·exact List.mem_cons_of_mem _ (findR_mem h)
  | q _ _ _=>exact List.mem_cons_of_mem _ (findR_mem h)
  | x _ _=>exact List.mem_cons_of_mem _ (findR_mem h)
  | n _ _=>exact List.mem_cons_of_mem _ (findR_mem h)
theorem findN_mem {n:Nat} {e:RE}:∀ {db:List Fc},findN db n=some e→.n n e∈db
 | [],h=>by simp [findN] at h
 | f :: r,h=>by
  cases f with
  | n s e' =>
   simp only [findN] at h
   split at h
   ·rename_i hs;cases h;subst hs;simp
   ·exact List.mem_cons_of_mem _ (findN_mem h)
  | q _ _ _=>exact List.mem_cons_of_mem _ (findN_mem h)
  | x _ _=>exact List.mem_cons_of_mem _ (findN_mem h)
  | r _ _=>exact List.mem_cons_of_mem _ (findN_mem h)
def asNum (db:List Fc):List Cell→Option (RE×Nat)
 | [.ob a,.ou b,.os c,.ou d,.os e]=>if a=b && a=c && a+1=d && a+1=e then findQ db a else none
 | [.bl false,.it .u64 0,.nils,.it .u64 0,.nils]=>some (.c 0,1)
 | _=>none
theorem asNum_ok {β:Nat→Rat} {ρ:Env} {W:World} {db:List Fc} {cs:List Cell} {e:RE} {k:Nat} (h:asNum db cs=some (e,k)) (hf:∀ f∈db,(SQ β).on ρ f W) :
  (IsQ W (.agg (cs.map (Cell.den ρ)).toArray) (e.ev β)∧Fits k (e.ev β))∧∃ c d:Nv,.agg (cs.map (Cell.den ρ)).toArray=qv c d:=by
 unfold asNum at h
 split at h
 ·rename_i a b c d g
  split at h
  ·rename_i hh
   simp only [Bool.and_eq_true,decide_eq_true_eq] at hh
   obtain ⟨⟨⟨rfl,rfl⟩,rfl⟩,rfl⟩:=hh
   have:=hf _ (findQ_mem h)
   exact ⟨this,qv_of this.1⟩
  ·cases h
 ·cases h
  refine ⟨⟨?_,fits_int (by decide) (by decide)⟩,⟨false,0,none,0,0,.empty,0⟩,⟨false,0,none,0,0,.empty,0⟩,rfl⟩
  exact isQ_zero W
 ·cases h
def asPair (db:List Fc) (cs:List Cell):Option ((RE×Nat)×RE×Nat):=
 match asNum db (cs.take 5),asNum db (cs.drop 5) with
 | some x,some y=>some (x,y)
 | _,_=>none
theorem asPair_ok {β:Nat→Rat} {ρ:Env} {W:World} {db:List Fc} {cs:List Cell} {e e':RE} {k k':Nat} (h:asPair db cs=some ((e,k),e',k')) (hf:∀ f∈db,(SQ β).on ρ f W) :
  RotV (e.ev β) (e'.ev β) (.agg (cs.map (Cell.den ρ)).toArray) W∧Fits k (e.ev β)∧Fits k' (e'.ev β):=by
 unfold asPair at h
 split at h
 ·rename_i x y h1 h2
  cases h
  obtain ⟨h3,c,d,e3⟩:=asNum_ok h1 hf
  obtain ⟨h4,c',d',e4⟩:=asNum_ok h2 hf
  refine ⟨?_,h3.2,h4.2⟩
  rw [e3] at h3
  rw [e4] at h4
  have hl:(cs.map (Cell.den ρ))=((cs.take 5).map (Cell.den ρ)) ++ ((cs.drop 5).map (Cell.den ρ)):=by rw [← List.map_append,List.take_append_drop]
  have e3':(cs.take 5).map (Cell.den ρ)=[.bool c.b,.int .u64 c.u,.slice c.p c.l c.c,.int .u64 d.u,.slice d.p d.l d.c]:=by
   have:=Value.agg.inj e3
   simpa using congrArg Array.toList this
  have e4':(cs.drop 5).map (Cell.den ρ)=[.bool c'.b,.int .u64 c'.u,.slice c'.p c'.l c'.c,.int .u64 d'.u,.slice d'.p d'.l d'.c]:=by
   have:=Value.agg.inj e4
   simpa using congrArg Array.toList this
  rw [hl,e3',e4']
  exact ⟨_,_,_,_,_,_,_,_,_,_,_,_,_,_,_,_,_,_,rfl,h3.1,h4.1⟩
 ·cases h
section
variable {β:Nat→Rat}
def con1 (β:Nat→Rat) (f:FuncId) (op:RE→RE) (sz:Nat→Nat):Con (SQ β) where
 fn:=f
 app:=fun db b args=>match args with
  | [.e (.a x)]=>match asNum db x with
   | some (e,k)=>if k≤K0 then some (.e (.a (numC b)),[.q b (op e) (sz k)]) else none
   | none=>none
  | _=>none
theorem con1_ok {f:FuncId} {op:RE→RE} {sz:Nat→Nat} (h:∀ e k v W,k≤K0→IsQ W v (e.ev β)→Fits k (e.ev β)→EV W→Calls Tryz.prog f #[v] W (RetQ W ((op e).ev β))∧Fits (sz k) ((op e).ev β)):(con1 β f op sz).Ok Tryz.prog (SQ β) EV:=by
 intro db b args res new ha ρ W hf hE
 simp only [con1] at ha
 split at ha
 ·rename_i x
  split at ha
  ·rename_i e k hx
   split at ha
   ·rename_i hk
    cases ha
    obtain ⟨⟨h1,h2⟩,-⟩:=asNum_ok hx hf
    obtain ⟨h3,h4⟩:=h e k _ W hk h1 h2 hE
    exact ans_q h3 h4
   ·cases ha
  ·cases ha
 ·cases ha
def con2 (β:Nat→Rat) (f:FuncId) (op:RE→RE→RE) (sz:Nat→Nat→Nat) (side:RE→RE→Bool):Con (SQ β) where
 fn:=f
 app:=fun db b args=>match args with
  | [.e (.a x),.e (.a y)]=>match asNum db x,asNum db y with
   | some (e,k),some (e',k')=>if decide (k≤K0) && decide (k'≤K0) && side e e' then some (.e (.a (numC b)),[.q b (op e e') (sz k k')]) else none
   | _,_=>none
  | _=>none
theorem con2_ok {f:FuncId} {op:RE→RE→RE} {sz:Nat→Nat→Nat} {side:RE→RE→Bool} (h:∀ e e' k k' v v' W,k≤K0→k'≤K0→side e e' = true→IsQ W v (e.ev β)→Fits k (e.ev β)→IsQ W v' (e'.ev β)→Fits k' (e'.ev β)→EV W→Calls Tryz.prog f #[v,v'] W (RetQ W ((op e e').ev β))∧Fits (sz k k') ((op e e').ev β)):(con2 β f op sz side).Ok Tryz.prog (SQ β) EV:=by
 intro db b args res new ha ρ W hf hE
 simp only [con2] at ha
 split at ha
 ·rename_i x y
  split at ha
  ·rename_i e k e' k' hx hy
   split at ha
   ·rename_i hk
    simp only [Bool.and_eq_true,decide_eq_true_eq] at hk
    cases ha
    obtain ⟨⟨h1,h2⟩,-⟩:=asNum_ok hx hf
    obtain ⟨⟨h1',h2'⟩,-⟩:=asNum_ok hy hf
    obtain ⟨h3,h4⟩:=h e e' k k' _ _ W hk.1.1 hk.1.2 hk.2 h1 h2 h1' h2' hE
    exact ans_q h3 h4
   ·cases ha
  ·cases ha
 ·cases ha
variable (β) (h:Hint)
def nzB (h:Hint) (e:RE):Bool:=h.nz.any fun p=>p.beq e
def sgB (h:Hint) (e:RE):Option Int:=(h.sg.find? fun p=>p.1.beq e).map (·.2)
def cmB (h:Hint) (e e':RE):Option Int:=if eqB h e e' then some 0 else (h.cm.find? fun p=>p.1.beq e && p.2.1.beq e').map (·.2.2)
def conDiv:Con (SQ β) where
 fn:=23
 app:=fun db b args=>match args with
  | [.e (.a x),.e (.a y)]=>match asNum db x,asNum db y with
   | some (e,k),some (e',k')=>if decide (k≤K0) && decide (k'≤K0) then
     if nzB h e' then some (.t [.a (numC b),.s (.it .i64 0)],[.q b (.div e e') (k+k' + 1)]) else
     if eqB h e' (.c 0) then some (.t [.a (numC b),.s (.it .i64 9)],[.q b (.div e e') (k+k' + 1)]) else none
    else none
   | _,_=>none
  | _=>none
def conSign:Con (SQ β) where
 fn:=17
 app:=fun db _ args=>match args with
  | [.e (.a x)]=>match asNum db x with
   | some (e,_)=>match sgB h e with
    | some n=>some (.e (.s (.it .i64 n)),[])
    | none=>none
   | none=>none
  | _=>none
def conCmp:Con (SQ β) where
 fn:=38
 app:=fun db _ args=>match args with
  | [.e (.a x),.e (.a y)]=>match asNum db x,asNum db y with
   | some (e,k),some (e',k')=>if decide (k≤K0) && decide (k'≤K0) then (match cmB h e e' with
     | some n=>some (.e (.s (.it .i64 n)),[])
     | none=>none) else none
   | _,_=>none
  | _=>none
def conInt:Con (SQ β) where
 fn:=26
 app:=fun _ b args=>match args with
  | [.e (.s (.it .i64 n))]=>if decide (-9223372036854775808≤n) && decide (n≤9223372036854775807) then some (.e (.a (numC b)),[.q b (.c n) 1]) else none
  | _=>none
def cq:List (Con (SQ β)):=[
 con2 β 28 .add (fun a b=>a+b+1) (fun _ _=>true),con2 β 30 .sub (fun a b=>a+b+1) (fun _ _=>true),con2 β 32 .mul (fun a b=>a+b) (fun _ _=>true),
 con2 β 123 .div (fun a b=>a+b+1) (fun _ e=>nzB h e),con1 β 34 .neg id,con1 β 36 .abs id,conDiv β h,conSign β h,conCmp β h,conInt β]
end
section
variable {β:Nat→Rat} {h:Hint}
theorem nzB_ok (ok:h.Ok β) {e:RE} (hh:nzB h e=true):e.ev β≠0:=by
 obtain ⟨p,hp,h1⟩:=List.any_eq_true.1 hh
 rw [← RE.beq_eq h1]
 exact ok.2.2.1 p hp
theorem sgB_ok (ok:h.Ok β) {e:RE} {n:Int} (hh:sgB h e=some n):sgQ (e.ev β)=n:=by
 obtain ⟨p,hp,rfl⟩:=Option.map_eq_some_iff.1 hh
 have h1:=List.find?_some hp
 rw [← RE.beq_eq h1]
 exact ok.2.2.2.1 p (List.mem_of_find?_eq_some hp)
theorem cmB_ok (ok:h.Ok β) {e e':RE} {n:Int} (hh:cmB h e e' = some n):cmpQ (e.ev β) (e'.ev β)=n:=by
 unfold cmB at hh
 split at hh
 ·rename_i he
  cases hh
  rw [eqB_ok ok he]
  unfold cmpQ
  simp
 ·obtain ⟨p,hp,rfl⟩:=Option.map_eq_some_iff.1 hh
  have h1:=List.find?_some hp
  simp only [Bool.and_eq_true] at h1
  rw [← RE.beq_eq h1.1,← RE.beq_eq h1.2]
  exact ok.2.2.2.2 p (List.mem_of_find?_eq_some hp)
theorem conDiv_ok (ok:h.Ok β):(conDiv β h).Ok Tryz.prog (SQ β) EV:=by
 intro db b args res new ha ρ W hf hE
 simp only [conDiv] at ha
 split at ha
 ·split at ha
  ·rename_i e k e' k' hx hy
   split at ha
   ·rename_i hk
    simp only [Bool.and_eq_true,decide_eq_true_eq] at hk
    obtain ⟨⟨h1,h2⟩,-⟩:=asNum_ok hx hf
    obtain ⟨⟨h1',h2'⟩,-⟩:=asNum_ok hy hf
    have hc:=Div_calls _ _ _ _ (max k k') W h1 h1' (by simp only [K0] at hk;omega) (h2.mono (Nat.le_max_left _ _)) (h2'.mono (Nat.le_max_right _ _)) hE.tz
    split at ha
    ·rename_i hn
     cases ha
     rw [if_neg (nzB_ok ok hn)] at hc
     exact ans_qe (e:=.div e e') hc (h2.over h2')
    ·split at ha
     ·rename_i hn
      cases ha
      rw [if_pos (show e'.ev β=0 from (eqB_ok ok hn).trans rfl)] at hc
      exact ans_qe (e:=.div e e') hc (h2.over h2')
     ·cases ha
   ·cases ha
  ·cases ha
 ·cases ha
theorem conSign_ok (ok:h.Ok β):(conSign β h).Ok Tryz.prog (SQ β) EV:=by
 intro db b args res new ha ρ W hf hE
 simp only [conSign] at ha
 split at ha
 ·split at ha
  ·rename_i e k hx
   split at ha
   ·rename_i n hn
    cases ha
    obtain ⟨⟨h1,h2⟩,-⟩:=asNum_ok hx hf
    have hc:=Sign_q _ _ W h1
    rw [sgB_ok ok hn] at hc
    exact ans_i hc rfl
   ·cases ha
  ·cases ha
 ·cases ha
theorem conCmp_ok (ok:h.Ok β):(conCmp β h).Ok Tryz.prog (SQ β) EV:=by
 intro db b args res new ha ρ W hf hE
 simp only [conCmp] at ha
 split at ha
 ·split at ha
  ·rename_i e k e' k' hx hy
   split at ha
   ·rename_i hk
    simp only [Bool.and_eq_true,decide_eq_true_eq] at hk
    split at ha
    ·rename_i n hn
     cases ha
     obtain ⟨⟨h1,h2⟩,-⟩:=asNum_ok hx hf
     obtain ⟨⟨h1',h2'⟩,-⟩:=asNum_ok hy hf
     have hc:=Cmp_calls _ _ _ _ (max k k') W h1 h1' (by simp only [K0] at hk;omega) (h2.mono (Nat.le_max_left _ _)) (h2'.mono (Nat.le_max_right _ _))
     rw [cmB_ok ok hn] at hc
     exact ans_i hc rfl
    ·cases ha
   ·cases ha
  ·cases ha
 ·cases ha
theorem conInt_ok:(conInt β).Ok Tryz.prog (SQ β) EV:=by
 intro db b args res new ha ρ W hf hE
 simp only [conInt] at ha
 split at ha
 ·rename_i n
  split at ha
  ·rename_i hk
   simp only [Bool.and_eq_true,decide_eq_true_eq] at hk
   cases ha
   exact ans_q (e:=.c n) (Int_calls n hk.1 (by omega) W) (fits_int hk.1 hk.2)
  ·cases ha
 ·cases ha
theorem fits_abs {k:Nat} {r:Rat} (h:Fits k r):Fits k (if r.num<0 then -r else r):=by
 split
 ·exact h.neg
 ·exact h
theorem cq_ok (ok:h.Ok β):∀ c∈cq β h,c.Ok Tryz.prog (SQ β) EV:=by
 have hmax:∀ {k k':Nat} {r:Rat},Fits k r→Fits (max k k') r:=fun h=>h.mono (Nat.le_max_left _ _)
 have hmax':∀ {k k':Nat} {r:Rat},Fits k' r→Fits (max k k') r:=fun h=>h.mono (Nat.le_max_right _ _)
 unfold cq
 simp only [List.forall_mem_cons,List.not_mem_nil,false_imp_iff,implies_true,and_true]
 refine ⟨con2_ok fun e e' k k' v v' W hk hk' _ h1 h2 h3 h4 hE=>⟨Add_calls _ _ v v' (max k k') W h1 h3 (by simp only [K0] at hk hk';omega) (hmax h2) (hmax' h4) hE.tz,h2.plus h4⟩,
  con2_ok fun e e' k k' v v' W hk hk' _ h1 h2 h3 h4 hE=>⟨Sub_calls _ _ v v' (max k k') W h1 h3 (by simp only [K0] at hk hk';omega) (hmax h2) (hmax' h4) hE.tz,h2.minus h4⟩,
  con2_ok fun e e' k k' v v' W hk hk' _ h1 h2 h3 h4 hE=>⟨Mul_calls _ _ v v' (max k k') W h1 h3 (by simp only [K0] at hk hk';omega) (hmax h2) (hmax' h4) hE.tz,h2.mul h4⟩,
  con2_ok fun e e' k k' v v' W hk hk' hn h1 h2 h3 h4 hE=>⟨Over_calls _ _ v v' (max k k') W h1 h3 (by simp only [K0] at hk hk';omega) (nzB_ok ok hn) (hmax h2) (hmax' h4) hE.tz,h2.over h4⟩,
  con1_ok fun e k v W _ h1 h2 _=>⟨Neg_calls _ v W h1,h2.neg⟩,
  con1_ok fun e k v W _ h1 h2 _=>⟨Abs_calls _ v W h1,fits_abs h2⟩,conDiv_ok ok,conSign_ok ok,conCmp_ok ok,conInt_ok⟩
end
end Rx
end Go.Proofs.YtnmlkobogofadaaGreatDoor
namespace Go.Proofs.YtnmlkobogofadaaGreatDoor.Rx
open Go.RowKit
theorem mixed:(Tryz.prog).follows .mixedOrders=true:=by kernel_rfl
theorem hint0 (β:Nat→Rat):Hint.Ok β {}:=⟨fun p h=>(by cases h),fun p h=>(by cases h),fun p h=>(by cases h),fun p h=>(by cases h),fun p h=>(by cases h)⟩
section
variable {β:Nat→Rat} {h:Hint} {ok:h.Ok β} {cons:List (Con (SQ β))} {fuel:Nat} {f:FuncId} {args:List SV} {fs:List Fc} {b:Nat} {ρ:Env} {w:World}
def isQ (e:RE):Option (SV×List Fc)→Bool
 | some (.e (.a cs),fs)=>match asNum fs cs with
  | some (e',_)=>e'.beq e
  | none=>false
 | _=>false
def isRot (e e':RE):Option (SV×List Fc)→Bool
 | some (.e (.a cs),fs)=>match asPair fs cs with
  | some ((x,_),y,_)=>x.beq e && y.beq e'
  | none=>false
 | _=>false
def isB (x:Bool):Option (SV×List Fc)→Bool
 | some (.e (.s (.bl y)),_)=>x == y
 | _=>false
def isI (x:Int):Option (SV×List Fc)→Bool
 | some (.e (.s (.it .i64 y)),_)=>x == y
 | _=>false
def isQB (e:RE) (x:Bool):Option (SV×List Fc)→Bool
 | some (.t [.a cs,.s (.bl y)],fs)=>match asNum fs cs with
  | some (e',_)=>e'.beq e && x == y
  | none=>false
 | _=>false
theorem isQ_spec {e:RE} {o:Option (SV×List Fc)} (h:isQ e o=true):∃ cs fs k,o=some (.e (.a cs),fs)∧asNum fs cs=some (e,k):=by
 unfold isQ at h
 split at h
 ·split at h
  ·rename_i cs fs _ e' k ha;exact ⟨cs,fs,k,rfl,by rw [ha,RE.beq_eq h]⟩
  ·cases h
 ·cases h
theorem isRot_spec {e e':RE} {o:Option (SV×List Fc)} (h:isRot e e' o=true):∃ cs fs k k',o=some (.e (.a cs),fs)∧asPair fs cs=some ((e,k),e',k'):=by
 unfold isRot at h
 split at h
 ·split at h
  ·rename_i cs fs _ x k y k' ha
   simp only [Bool.and_eq_true] at h
   exact ⟨cs,fs,k,k',rfl,by rw [ha,RE.beq_eq h.1,RE.beq_eq h.2]⟩
  ·cases h
 ·cases h
theorem isB_spec {x:Bool} {o:Option (SV×List Fc)} (h:isB x o=true):∃ fs,o=some (.e (.s (.bl x)),fs):=by
 unfold isB at h
 split at h
 ·rename_i y fs
  have e:x=y:=by simpa using h
  subst e;exact ⟨fs,rfl⟩
 ·cases h
theorem isI_spec {x:Int} {o:Option (SV×List Fc)} (h:isI x o=true):∃ fs,o=some (.e (.s (.it .i64 x)),fs):=by
 unfold isI at h
 split at h
 ·rename_i y fs
  have e:x=y:=by simpa using h
  subst e;exact ⟨fs,rfl⟩
 ·cases h
theorem isQB_spec {e:RE} {x:Bool} {o:Option (SV×List Fc)} (h:isQB e x o=true):∃ cs fs k,o=some (.t [.a cs,.s (.bl x)],fs)∧asNum fs cs=some (e,k):=by
 unfold isQB at h
 split at h
 ·split at h
  ·rename_i cs y fs _ e' k ha
   simp only [Bool.and_eq_true,beq_iff_eq] at h
   exact ⟨cs,fs,k,by rw [h.2],by rw [ha,RE.beq_eq h.1]⟩
  ·cases h
 ·cases h
theorem EV_below {w:World} (hE:EV w):∀ W,Below w.heap.size w W→EV W:=fun _ hb=>Env.below hE hb (Nat.le_refl _)
theorem run_q {e:RE} (hc:∀ c∈cons,c.Ok Tryz.prog (SQ β) EV) (hr:isQ e (runF Tryz.prog (SQ β) (HQ β h ok) cons fuel f args fs b)=true) (hE:EV w) (hf:∀ g∈fs,Fc.on β ρ g w):Calls Tryz.prog f (args.map (SV.den ρ)).toArray w (RetQ w (e.ev β)):=by
 obtain ⟨cs,fs',k,heq,ha⟩:=isQ_spec hr
 exact (runF_ok mixed hc heq (EV_below hE) hf).mono fun x W' ⟨ρ',_,hx,hb,hfs⟩=>⟨_,hx,(asNum_ok ha hfs).1.1,hb⟩
theorem run_rot {e e':RE} (hc:∀ c∈cons,c.Ok Tryz.prog (SQ β) EV) (hr:isRot e e' (runF Tryz.prog (SQ β) (HQ β h ok) cons fuel f args fs b)=true) (hE:EV w) (hf:∀ g∈fs,Fc.on β ρ g w):Calls Tryz.prog f (args.map (SV.den ρ)).toArray w (RetRot w (e.ev β) (e'.ev β)):=by
 obtain ⟨cs,fs',k,k',heq,ha⟩:=isRot_spec hr
 exact (runF_ok mixed hc heq (EV_below hE) hf).mono fun x W' ⟨ρ',_,hx,hb,hfs⟩=>⟨_,hx,(asPair_ok ha hfs).1,hb⟩
theorem run_b {y:Bool} (hc:∀ c∈cons,c.Ok Tryz.prog (SQ β) EV) (hr:isB y (runF Tryz.prog (SQ β) (HQ β h ok) cons fuel f args fs b)=true) (hE:EV w) (hf:∀ g∈fs,Fc.on β ρ g w):Calls Tryz.prog f (args.map (SV.den ρ)).toArray w (RetI w (.bool y)):=by
 obtain ⟨fs',heq⟩:=isB_spec hr
 exact (runF_ok mixed hc heq (EV_below hE) hf).mono fun x W' ⟨ρ',_,hx,hb,_⟩=>⟨hx,hb⟩
theorem run_i {y:Int} (hc:∀ c∈cons,c.Ok Tryz.prog (SQ β) EV) (hr:isI y (runF Tryz.prog (SQ β) (HQ β h ok) cons fuel f args fs b)=true) (hE:EV w) (hf:∀ g∈fs,Fc.on β ρ g w):Calls Tryz.prog f (args.map (SV.den ρ)).toArray w (RetI w (.int .i64 y)):=by
 obtain ⟨fs',heq⟩:=isI_spec hr
 exact (runF_ok mixed hc heq (EV_below hE) hf).mono fun x W' ⟨ρ',_,hx,hb,_⟩=>⟨hx,hb⟩
def RetQB (w:World) (r:Rat) (x:Bool) (e:Ending) (w':World):Prop:=∃ v,e=.returned (.tuple #[v,.bool x])∧IsQ w' v r∧Below w.heap.size w w'
theorem run_qb {e:RE} {y:Bool} (hc:∀ c∈cons,c.Ok Tryz.prog (SQ β) EV) (hr:isQB e y (runF Tryz.prog (SQ β) (HQ β h ok) cons fuel f args fs b)=true) (hE:EV w) (hf:∀ g∈fs,Fc.on β ρ g w):Calls Tryz.prog f (args.map (SV.den ρ)).toArray w (RetQB w (e.ev β) y):=by
 obtain ⟨cs,fs',k,heq,ha⟩:=isQB_spec hr
 exact (runF_ok mixed hc heq (EV_below hE) hf).mono fun x W' ⟨ρ',_,hx,hb,hfs⟩=>⟨_,hx,(asNum_ok ha hfs).1.1,hb⟩
end
def bet (L:List Rat):Nat→Rat:=fun n=>L.getD n 0
def qq (c d:Nv):List Nv:=[c,d]
theorem open_rot {a b:Rat} {v:Value} {W:World} (h:RotV a b v W):∃ c d c' d':Nv,v=.agg #[.bool c.b,.int .u64 c.u,.slice c.p c.l c.c,.int .u64 d.u,.slice d.p d.l d.c,.bool c'.b,.int .u64 c'.u,.slice c'.p c'.l c'.c,.int .u64 d'.u,.slice d'.p d'.l d'.c]∧IsQ W (qv c d) a∧IsQ W (qv c' d') b:=by
 obtain ⟨t6,x6,p6,l6,q6,y6,r6,s6,u6,t7,x7,p7,l7,q7,y7,r7,s7,u7,rfl,h1,h2⟩:=h
 exact ⟨⟨t6,x6,p6,l6,q6,.empty,0⟩,⟨false,y6,r6,s6,u6,.empty,0⟩,⟨t7,x7,p7,l7,q7,.empty,0⟩,⟨false,y7,r7,s7,u7,.empty,0⟩,rfl,h1,h2⟩
def ev (L:List Nv):Env:=fun n=>L.getD n default
abbrev K1:Nat:=1048576
abbrev pr (s:Nat):SV:=.e (.a (numC s ++ numC (s+2)))
abbrev pq (s i:Nat):List Fc:=[.q s (.v i) K1,.q (s+2) (.v (i+1)) K1]
section
variable {a b c d:Rat} {v1 v2:Value} {W:World}
theorem two_pairs {f:FuncId} {R:Ending→World→Prop} (h1:RotV a b v1 W) (h2:RotV c d v2 W) (hf:(Fits K1 a∧Fits K1 b)∧Fits K1 c∧Fits K1 d)
  (go:∀ ρ:Env,(∀ g∈pq 0 0 ++ pq 4 2,Fc.on (bet [a,b,c,d]) ρ g W)→Calls Tryz.prog f ([pr 0,pr 4].map (SV.den ρ)).toArray W R):Calls Tryz.prog f #[v1,v2] W R:=by
 obtain ⟨c1,d1,c2,d2,rfl,i1,i2⟩:=open_rot h1
 obtain ⟨c3,d3,c4,d4,rfl,i3,i4⟩:=open_rot h2
 refine go (ev [c1,d1,c2,d2,c3,d3,c4,d4]) fun g hg=>?_
 simp only [pq,List.cons_append,List.nil_append,List.mem_cons,List.not_mem_nil,or_false] at hg
 rcases hg with rfl | rfl | rfl | rfl
 ·exact ⟨i1,hf.1.1⟩
 ·exact ⟨i2,hf.1.2⟩
 ·exact ⟨i3,hf.2.1⟩
 ·exact ⟨i4,hf.2.2⟩
theorem one_pair {f:FuncId} {R:Ending→World→Prop} (h1:RotV a b v1 W) (hf:Fits K1 a∧Fits K1 b)
  (go:∀ ρ:Env,(∀ g∈pq 0 0,Fc.on (bet [a,b]) ρ g W)→Calls Tryz.prog f ([pr 0].map (SV.den ρ)).toArray W R):Calls Tryz.prog f #[v1] W R:=by
 obtain ⟨c1,d1,c2,d2,rfl,i1,i2⟩:=open_rot h1
 refine go (ev [c1,d1,c2,d2]) fun g hg=>?_
 simp only [pq,List.mem_cons,List.not_mem_nil,or_false] at hg
 rcases hg with rfl | rfl
 ·exact ⟨i1,hf.1⟩
 ·exact ⟨i2,hf.2⟩
theorem dot_q (h1:RotV a b v1 W) (h2:RotV c d v2 W) (hf:(Fits K1 a∧Fits K1 b)∧Fits K1 c∧Fits K1 d) (hE:EV W):Calls Tryz.prog 74 #[v1,v2] W (RetQ W (a*c+b*d)):=
 two_pairs h1 h2 hf fun ρ hg=>run_q (e:=.add (.mul (.v 0) (.v 2)) (.mul (.v 1) (.v 3))) (ok:=hint0 _) (fuel:=1) (b:=8) (cq_ok (hint0 _)) (by kernel_rfl) hE hg
end
end Go.Proofs.YtnmlkobogofadaaGreatDoor.Rx
namespace Go.Proofs.YtnmlkobogofadaaGreatDoor.Rx
open Go.RowKit
section
variable {a b c d:Rat} {v1 v2:Value} {W:World}
theorem cross_q (h1:RotV a b v1 W) (h2:RotV c d v2 W) (hf:(Fits K1 a∧Fits K1 b)∧Fits K1 c∧Fits K1 d) (hE:EV W):Calls Tryz.prog 76 #[v1,v2] W (RetQ W (a*d - b*c)):=
 two_pairs h1 h2 hf fun ρ hg=>run_q (e:=.sub (.mul (.v 0) (.v 3)) (.mul (.v 1) (.v 2))) (ok:=hint0 _) (fuel:=1) (b:=8) (cq_ok (hint0 _)) (by kernel_rfl) hE hg
theorem pturn_q (h1:RotV a b v1 W) (h2:RotV c d v2 W) (hf:(Fits K1 a∧Fits K1 b)∧Fits K1 c∧Fits K1 d) (hE:EV W):Calls Tryz.prog 78 #[v1,v2] W (RetRot W (c*a - d*b) (d*a+c*b)):=
 two_pairs h1 h2 hf fun ρ hg=>run_rot (e:=.sub (.mul (.v 2) (.v 0)) (.mul (.v 3) (.v 1))) (e':=.add (.mul (.v 3) (.v 0)) (.mul (.v 2) (.v 1))) (ok:=hint0 _) (fuel:=1) (b:=8) (cq_ok (hint0 _)) (by kernel_rfl) hE hg
theorem then_q (h1:RotV a b v1 W) (h2:RotV c d v2 W) (hf:(Fits K1 a∧Fits K1 b)∧Fits K1 c∧Fits K1 d) (hE:EV W):Calls Tryz.prog 85 #[v1,v2] W (RetRot W (a*c - b*d) (b*c+a*d)):=
 two_pairs h1 h2 hf fun ρ hg=>run_rot (e:=.sub (.mul (.v 0) (.v 2)) (.mul (.v 1) (.v 3))) (e':=.add (.mul (.v 1) (.v 2)) (.mul (.v 0) (.v 3))) (ok:=hint0 _) (fuel:=1) (b:=8) (cq_ok (hint0 _)) (by kernel_rfl) hE hg
theorem back_q (h1:RotV a b v1 W) (hf:Fits K1 a∧Fits K1 b) (hE:EV W):Calls Tryz.prog 87 #[v1] W (RetRot W a (-b)):=
 one_pair h1 hf fun ρ hg=>run_rot (e:=.v 0) (e':=.neg (.v 1)) (ok:=hint0 _) (fuel:=1) (b:=4) (cq_ok (hint0 _)) (by kernel_rfl) hE hg
theorem hint_eq {β:Nat→Rat} {x y:RE} (h:x.ev β=y.ev β):Hint.Ok β { eq:=[(x,y)] }:=⟨fun p hp=>(by simp at hp;subst hp;exact h),fun p h=>(by cases h),fun p h=>(by cases h),fun p h=>(by cases h),fun p h=>(by cases h)⟩
theorem valid_q (h1:RotV a b v1 W) (hf:Fits K1 a∧Fits K1 b) (hu:a*a+b*b=1) (hE:EV W):Calls Tryz.prog 89 #[v1] W (RetI W (.bool true)):=
 have ok:Hint.Ok (bet [a,b]) { eq:=[(.add (.mul (.v 0) (.v 0)) (.mul (.v 1) (.v 1)),.c 1)] }:=hint_eq hu
 one_pair h1 hf fun ρ hg=>run_b (ok:=ok) (fuel:=1) (b:=4) (cq_ok ok) (by kernel_rfl) hE hg
theorem sgQ_cases {r:Rat} (h:r≠0):sgQ r=1∨sgQ r = -1:=by
 have h1:r.num≠0:=fun e=>h (Rat.num_eq_zero.1 e)
 unfold sgQ sgn
 split
 ·exact .inr rfl
 ·left;rw [if_neg (by omega)]
theorem half_q (h1:RotV a b v1 W) (hf:Fits K1 a∧Fits K1 b) (hu:1+a≠0) (hE:EV W):Calls Tryz.prog 80 #[v1] W (RetQB W (b / (1+a)) true):=by
 have hok:∀ s,sgQ (1+a)=s→Hint.Ok (bet [a,b]) { nz:=[.add (.c 1) (.v 0)],sg:=[(.add (.c 1) (.v 0),s)] }:=fun s hs =>
  ⟨fun p h=>(by cases h),fun p h=>(by cases h),fun p hp=>(by simp at hp;subst hp;exact hu),fun p hp=>(by simp at hp;subst hp;exact hs),fun p h=>(by cases h)⟩
 rcases sgQ_cases hu with hs | hs
 ·exact one_pair h1 hf fun ρ hg=>run_qb (e:=.div (.v 1) (.add (.c 1) (.v 0))) (ok:=hok _ hs) (fuel:=1) (b:=4) (cq_ok (hok _ hs)) (by kernel_rfl) hE hg
 ·exact one_pair h1 hf fun ρ hg=>run_qb (e:=.div (.v 1) (.add (.c 1) (.v 0))) (ok:=hok _ hs) (fuel:=1) (b:=4) (cq_ok (hok _ hs)) (by kernel_rfl) hE hg
end
theorem one_sq (r:Rat):1+r*r≠0:=by
 have h:0≤r*r:=by
  rcases Rat.le_total (a:=0) (b:=r) with h | h
  ·exact Rat.mul_nonneg h h
  ·have:=Rat.mul_nonneg (show 0≤-r by grind) (show 0≤-r by grind);grind
 grind
section
variable (β:Nat→Rat) (h:Hint)
def conPQ (f:FuncId) (o:RE→RE→RE→RE→RE) (sz:Nat→Nat→Nat→Nat→Nat):Con (SQ β) where
 fn:=f
 app:=fun db b args=>match args with
  | [.e (.a x),.e (.a y)]=>match asPair db x,asPair db y with
   | some ((e1,k1),e2,k2),some ((e3,k3),e4,k4)=>if decide (k1≤K1) && decide (k2≤K1) && decide (k3≤K1) && decide (k4≤K1) then some (.e (.a (numC b)),[.q b (o e1 e2 e3 e4) (sz k1 k2 k3 k4)]) else none
   | _,_=>none
  | _=>none
def conPP (f:FuncId) (o o':RE→RE→RE→RE→RE) (sz:Nat→Nat→Nat→Nat→Nat):Con (SQ β) where
 fn:=f
 app:=fun db b args=>match args with
  | [.e (.a x),.e (.a y)]=>match asPair db x,asPair db y with
   | some ((e1,k1),e2,k2),some ((e3,k3),e4,k4)=>if decide (k1≤K1) && decide (k2≤K1) && decide (k3≤K1) && decide (k4≤K1) then some (pr b,[.q b (o e1 e2 e3 e4) (sz k1 k2 k3 k4),.q (b+2) (o' e1 e2 e3 e4) (sz k1 k2 k3 k4)]) else none
   | _,_=>none
  | _=>none
def conBack:Con (SQ β) where
 fn:=87
 app:=fun db b args=>match args with
  | [.e (.a x)]=>match asPair db x with
   | some ((e1,k1),e2,k2)=>if decide (k1≤K1) && decide (k2≤K1) then some (pr b,[.q b e1 k1,.q (b+2) (.neg e2) k2]) else none
   | _=>none
  | _=>none
def conValid:Con (SQ β) where
 fn:=89
 app:=fun db _ args=>match args with
  | [.e (.a x)]=>match asPair db x with
   | some ((e1,k1),e2,k2)=>if decide (k1≤K1) && decide (k2≤K1) && eqB h (.add (.mul e1 e1) (.mul e2 e2)) (.c 1) then some (.e (.s (.bl true)),[]) else none
   | _=>none
  | _=>none
def conHalf:Con (SQ β) where
 fn:=80
 app:=fun db b args=>match args with
  | [.e (.a x)]=>match asPair db x with
   | some ((e1,k1),e2,k2)=>if decide (k1≤K1) && decide (k2≤K1) && nzB h (.add (.c 1) e1) then some (.t [.a (numC b),.s (.bl true)],[.q b (.div e2 (.add (.c 1) e1)) (k2+(1+k1+1)+1)]) else none
   | _=>none
  | _=>none
def tC (e:RE):RE:=.div (.sub (.c 1) (.mul e e)) (.add (.c 1) (.mul e e))
def tS (e:RE):RE:=.div (.add e e) (.add (.c 1) (.mul e e))
def conTurn:Con (SQ β) where
 fn:=83
 app:=fun db b args=>match args with
  | [.e (.a x)]=>match asNum db x with
   | some (e,k)=>if k≤K1 then some (pr b,[.q b (tC e) (4*k+5),.q (b+2) (tS e) (4*k+5)]) else none
   | _=>none
  | _=>none
def conSame2:Con (SQ β) where
 fn:=96
 app:=fun db _ args=>match args with
  | [.e (.a x),.e (.a y)]=>match asNum db x,asNum db y with
   | some (e,k),some (e',_)=>if decide (k≤K0) && eqB h e e' then some (.e (.s (.bl true)),[]) else none
   | _,_=>none
  | _=>none
def conAwake:Con (SQ β) where
 fn:=15
 app:=fun _ _ args=>match args with
  | []=>some (.e (.s (.bl true)),[])
  | _=>none
def isHand:List Cell→Option Nat
 | [.oi a,.oi b,.o8 c]=>if a+1=b && a+2=c then some a else none
 | _=>none
def conBoth:Con (SQ β) where
 fn:=20
 app:=fun db b args=>match args with
  | [.e (.a x)]=>match isHand x with
   | some a=>match findN db a with
    | some e=>some (.t [.a (numC b),.a (refC (b+2))],[.q b e 4,.r (b+2) e])
    | none=>none
   | none=>none
  | _=>none
def cl1:List (Con (SQ β)):=[
 conPQ β 74 (fun a b c d=>.add (.mul a c) (.mul b d)) (fun a b c d=>a+c+(b+d)+1),
 conPQ β 76 (fun a b c d=>.sub (.mul a d) (.mul b c)) (fun a b c d=>a+d+(b+c)+1),
 conPP β 78 (fun a b c d=>.sub (.mul c a) (.mul d b)) (fun a b c d=>.add (.mul d a) (.mul c b)) (fun a b c d=>a+b+c+d+1),
 conPP β 85 (fun a b c d=>.sub (.mul a c) (.mul b d)) (fun a b c d=>.add (.mul b c) (.mul a d)) (fun a b c d=>a+b+c+d+1),
 conBack β,conValid β h,conHalf β h,conTurn β,conSame2 β h,conAwake β,conBoth β]
def cl:List (Con (SQ β)):=cq β h ++ cl1 β h
end
section
variable {β:Nat→Rat} {h:Hint}
theorem conPQ_ok {f:FuncId} {o:RE→RE→RE→RE→RE} {sz:Nat→Nat→Nat→Nat→Nat}
  (hc:∀ e1 e2 e3 e4 v v' W,RotV (e1.ev β) (e2.ev β) v W→RotV (e3.ev β) (e4.ev β) v' W→((Fits K1 (e1.ev β)∧Fits K1 (e2.ev β))∧Fits K1 (e3.ev β)∧Fits K1 (e4.ev β))→EV W→Calls Tryz.prog f #[v,v'] W (RetQ W ((o e1 e2 e3 e4).ev β)))
  (hs:∀ e1 e2 e3 e4 k1 k2 k3 k4,Fits k1 (e1.ev β)→Fits k2 (e2.ev β)→Fits k3 (e3.ev β)→Fits k4 (e4.ev β)→Fits (sz k1 k2 k3 k4) ((o e1 e2 e3 e4).ev β)):(conPQ β f o sz).Ok Tryz.prog (SQ β) EV:=by
 intro db b args res new ha ρ W hf hE
 simp only [conPQ] at ha
 split at ha
 ·split at ha
  ·rename_i e1 k1 e2 k2 e3 k3 e4 k4 hx hy
   split at ha
   ·rename_i hk
    simp only [Bool.and_eq_true,decide_eq_true_eq] at hk
    cases ha
    obtain ⟨h1,h2,h3⟩:=asPair_ok hx hf
    obtain ⟨h4,h5,h6⟩:=asPair_ok hy hf
    exact ans_q (hc _ _ _ _ _ _ W h1 h4 ⟨⟨h2.mono hk.1.1.1,h3.mono hk.1.1.2⟩,h5.mono hk.1.2,h6.mono hk.2⟩ hE) (hs _ _ _ _ _ _ _ _ h2 h3 h5 h6)
   ·cases ha
  ·cases ha
 ·cases ha
theorem conPP_ok {f:FuncId} {o o':RE→RE→RE→RE→RE} {sz:Nat→Nat→Nat→Nat→Nat}
  (hc:∀ e1 e2 e3 e4 v v' W,RotV (e1.ev β) (e2.ev β) v W→RotV (e3.ev β) (e4.ev β) v' W→((Fits K1 (e1.ev β)∧Fits K1 (e2.ev β))∧Fits K1 (e3.ev β)∧Fits K1 (e4.ev β))→EV W→Calls Tryz.prog f #[v,v'] W (RetRot W ((o e1 e2 e3 e4).ev β) ((o' e1 e2 e3 e4).ev β)))
  (hs:∀ e1 e2 e3 e4 k1 k2 k3 k4,Fits k1 (e1.ev β)→Fits k2 (e2.ev β)→Fits k3 (e3.ev β)→Fits k4 (e4.ev β)→Fits (sz k1 k2 k3 k4) ((o e1 e2 e3 e4).ev β)∧Fits (sz k1 k2 k3 k4) ((o' e1 e2 e3 e4).ev β)):(conPP β f o o' sz).Ok Tryz.prog (SQ β) EV:=by
 intro db b args res new ha ρ W hf hE
 simp only [conPP] at ha
 split at ha
 ·split at ha
  ·rename_i e1 k1 e2 k2 e3 k3 e4 k4 hx hy
   split at ha
   ·rename_i hk
    simp only [Bool.and_eq_true,decide_eq_true_eq] at hk
    cases ha
    obtain ⟨h1,h2,h3⟩:=asPair_ok hx hf
    obtain ⟨h4,h5,h6⟩:=asPair_ok hy hf
    obtain ⟨s1,s2⟩:=hs _ _ _ _ _ _ _ _ h2 h3 h5 h6
    exact ans_rot (hc _ _ _ _ _ _ W h1 h4 ⟨⟨h2.mono hk.1.1.1,h3.mono hk.1.1.2⟩,h5.mono hk.1.2,h6.mono hk.2⟩ hE) s1 s2
   ·cases ha
  ·cases ha
 ·cases ha
theorem conBack_ok:(conBack β).Ok Tryz.prog (SQ β) EV:=by
 intro db b args res new ha ρ W hf hE
 simp only [conBack] at ha
 split at ha
 ·split at ha
  ·rename_i e1 k1 e2 k2 hx
   split at ha
   ·rename_i hk
    simp only [Bool.and_eq_true,decide_eq_true_eq] at hk
    cases ha
    obtain ⟨h1,h2,h3⟩:=asPair_ok hx hf
    exact ans_rot (e':=.neg e2) (back_q h1 ⟨h2.mono hk.1,h3.mono hk.2⟩ hE) h2 h3.neg
   ·cases ha
  ·cases ha
 ·cases ha
theorem conValid_ok (ok:h.Ok β):(conValid β h).Ok Tryz.prog (SQ β) EV:=by
 intro db b args res new ha ρ W hf hE
 simp only [conValid] at ha
 split at ha
 ·split at ha
  ·rename_i e1 k1 e2 k2 hx
   split at ha
   ·rename_i hk
    simp only [Bool.and_eq_true,decide_eq_true_eq] at hk
    cases ha
    obtain ⟨h1,h2,h3⟩:=asPair_ok hx hf
    exact ans_i (valid_q h1 ⟨h2.mono hk.1.1,h3.mono hk.1.2⟩ (eqB_ok ok hk.2) hE) rfl
   ·cases ha
  ·cases ha
 ·cases ha
theorem ans_qb {f:FuncId} {vals:Array Value} {W:World} {ρ:Env} {b:Nat} {e:RE} {k:Nat} {x:Bool} (hc:Calls Tryz.prog f vals W (RetQB W (e.ev β) x)) (hk:Fits k (e.ev β)):Calls Tryz.prog f vals W (Ans β ρ b W (.t [.a (numC b),.s (.bl x)]) [.q b e k]):=by
 refine hc.mono fun _ W' ⟨v,he,hv,hb⟩=>?_
 obtain ⟨c,d,rfl⟩:=qv_of hv
 have h1:(numC b).map (Cell.den (setL ρ b [c,d]))=[.bool c.b,.int .u64 c.u,.slice c.p c.l c.c,.int .u64 d.u,.slice d.p d.l d.c]:=by simp [numC,Cell.den,setL]
 refine ⟨setL ρ b [c,d],setL_out (by simp [M]),?_,hb,fun g hg=>?_⟩
 ·rw [he];simp only [SV.den,El.den,List.map_cons,List.map_nil,h1];rfl
 ·rw [List.mem_singleton] at hg
  subst hg
  refine ⟨?_,hk⟩
  rw [h1];exact hv
theorem conHalf_ok (ok:h.Ok β):(conHalf β h).Ok Tryz.prog (SQ β) EV:=by
 intro db b args res new ha ρ W hf hE
 simp only [conHalf] at ha
 split at ha
 ·split at ha
  ·rename_i e1 k1 e2 k2 hx
   split at ha
   ·rename_i hk
    simp only [Bool.and_eq_true,decide_eq_true_eq] at hk
    cases ha
    obtain ⟨h1,h2,h3⟩:=asPair_ok hx hf
    exact ans_qb (e:=.div e2 (.add (.c 1) e1)) (half_q h1 ⟨h2.mono hk.1.1,h3.mono hk.1.2⟩ (nzB_ok ok hk.2) hE) (h3.over ((fits_int (n:=1) (by decide) (by decide)).plus h2))
   ·cases ha
  ·cases ha
 ·cases ha
theorem conTurn_ok:(conTurn β).Ok Tryz.prog (SQ β) EV:=by
 intro db b args res new ha ρ W hf hE
 simp only [conTurn] at ha
 split at ha
 ·split at ha
  ·rename_i e k hx
   split at ha
   ·rename_i hk
    cases ha
    obtain ⟨⟨h1,h2⟩,-⟩:=asNum_ok hx hf
    have f1:Fits 1 (1:Rat):=fits_int (n:=1) (by decide) (by decide)
    have fm:=h2.mul h2
    have fp:=f1.plus fm
    have fs:=f1.minus fm
    have fa:=h2.plus h2
    have hK:∀ {j:Nat} {r:Rat},j≤2*k+2→Fits j r→Fits (2*K1+2) r:=fun hj hr=>hr.mono (by omega)
    exact ans_rot (e:=tC e) (e':=tS e) (Turn_calls (e.ev β) _ (2*K1+2) W h1 (by decide) (hK (by omega) h2) (hK (by omega) f1) (hK (by omega) fm) (hK (by omega) fp) (hK (by omega) fs) (hK (by omega) fa) (one_sq _) hE.tz)
     ((fs.over fp).mono (by omega)) ((fa.over fp).mono (by omega))
   ·cases ha
  ·cases ha
 ·cases ha
theorem conSame2_ok (ok:h.Ok β):(conSame2 β h).Ok Tryz.prog (SQ β) EV:=by
 intro db b args res new ha ρ W hf hE
 simp only [conSame2] at ha
 split at ha
 ·split at ha
  ·rename_i e k e' k' hx hy
   split at ha
   ·rename_i hk
    simp only [Bool.and_eq_true,decide_eq_true_eq] at hk
    cases ha
    obtain ⟨⟨h1,h2⟩,-⟩:=asNum_ok hx hf
    obtain ⟨⟨h3,h4⟩,-⟩:=asNum_ok hy hf
    exact ans_i (same_calls _ _ _ k W h1 (by rw [eqB_ok ok hk.2];exact h3) hk.1 h2 hE) rfl
   ·cases ha
  ·cases ha
 ·cases ha
theorem conAwake_ok:(conAwake β).Ok Tryz.prog (SQ β) EV:=by
 intro db b args res new ha ρ W hf hE
 simp only [conAwake] at ha
 split at ha
 ·cases ha
  exact ans_i (awake_calls nearOK W hE) rfl
 ·cases ha
theorem isHand_ok {x:List Cell} {a:Nat} (hx:isHand x=some a):x=handC a:=by
 unfold isHand at hx
 split at hx
 ·split at hx
  ·rename_i hh
   simp only [Bool.and_eq_true,decide_eq_true_eq] at hh
   cases hx
   rw [← hh.1,← hh.2]
   rfl
  ·cases hx
 ·cases hx
theorem conBoth_ok:(conBoth β).Ok Tryz.prog (SQ β) EV:=by
 intro db b args res new ha ρ W hf hE
 simp only [conBoth] at ha
 split at ha
 ·split at ha
  ·rename_i a hx
   split at ha
   ·rename_i e hn
    cases ha
    have hm:=hf _ (findN_mem hn)
    obtain ⟨pw,hb,h0,h1,h2,h3,h4,he⟩:=(show IsN _ _ _ _ from hm)
    rw [isHand_ok hx]
    have hc:=Both_calls (ρ a).u (ρ (a+1)).u pw h0 h1 h2 h3 h4 W hE.tz
    rw [he,← hb] at hc
    exact ans_b hc (by rw [← he];exact numOf_fits _ _ _ h1 h2 h3 h4)
   ·cases ha
  ·cases ha
 ·cases ha
theorem cl1_ok (ok:h.Ok β):∀ c∈cl1 β h,c.Ok Tryz.prog (SQ β) EV:=by
 have hm:∀ {j k:Nat} {r:Rat},j≤k→Fits j r→Fits k r:=fun hj hr=>hr.mono hj
 unfold cl1
 simp only [List.forall_mem_cons,List.not_mem_nil,false_imp_iff,implies_true,and_true]
 exact ⟨conPQ_ok (fun _ _ _ _ _ _ _ h1 h2 hf hE=>dot_q h1 h2 hf hE) (fun _ _ _ _ _ _ _ _ f1 f2 f3 f4=>(f1.mul f3).plus (f2.mul f4)),
  conPQ_ok (fun _ _ _ _ _ _ _ h1 h2 hf hE=>cross_q h1 h2 hf hE) (fun _ _ _ _ _ _ _ _ f1 f2 f3 f4=>(f1.mul f4).minus (f2.mul f3)),
  conPP_ok (fun _ _ _ _ _ _ _ h1 h2 hf hE=>pturn_q h1 h2 hf hE) (fun _ _ _ _ _ _ _ _ f1 f2 f3 f4=>⟨hm (by omega) ((f3.mul f1).minus (f4.mul f2)),hm (by omega) ((f4.mul f1).plus (f3.mul f2))⟩),
  conPP_ok (fun _ _ _ _ _ _ _ h1 h2 hf hE=>then_q h1 h2 hf hE) (fun _ _ _ _ _ _ _ _ f1 f2 f3 f4=>⟨hm (by omega) ((f1.mul f3).minus (f2.mul f4)),hm (by omega) ((f2.mul f3).plus (f1.mul f4))⟩),
  conBack_ok,conValid_ok ok,conHalf_ok ok,conTurn_ok,conSame2_ok ok,conAwake_ok,conBoth_ok⟩
theorem cl_ok (ok:h.Ok β):∀ c∈cl β h,c.Ok Tryz.prog (SQ β) EV:=fun c hc=>by
 rcases List.mem_append.1 hc with hc | hc
 ·exact cq_ok ok c hc
 ·exact cl1_ok ok c hc
end
end Go.Proofs.YtnmlkobogofadaaGreatDoor.Rx
