/- What the proof rests on, part 26. -/
import Derived.Test.YtmijlcldmefggaaGreatDoorZ25
namespace Go.Proofs.YtmijlcldmefggaaGreatDoor
set_option maxRecDepth 100000
set_option maxHeartbeats 80000000
namespace Rx.Ry
open Go.RowKit
section
variable (P:Program) {S:Sys}
def opNm (rd:Tmp→Option SV):List Operand→List Nat
 | []=>[]
 | .tmp t :: r=>match rd t with
  | some v=>v.nm ++ opNm rd r
  | none=>opNm rd r
 | _ :: r=>opNm rd r
def elemZ (t:TypeId):Option Nat:=match P.underlying t with
 | some (.slice e)=>sizeB P e
 | _=>none
def arrZ (t:TypeId):Option (Nat×Nat):=match P.underlying t with
 | some (.array l e)=>match sizeB P e with
  | some z=>some (l,z)
  | none=>none
 | _=>none
def arith (op:BinOp) (k:IntKind) (a b:Int):Option Int:=match op with
 | .add=>some (k.wrap (a+b))
 | .sub=>some (k.wrap (a - b))
 | .mul=>some (k.wrap (a*b))
 | .quo=>if b=0 then none else some (k.wrap (a.tdiv b))
 | .rem=>if b=0 then none else some (a.tmod b)
 | _=>none
def catS (op:BinOp) (a b:ByteArray):Option ByteArray:=match op with
 | .add=>bif Nat.ble (a.data.toList.length+b.data.toList.length) 1000000 then some ⟨(a.data.toList ++ b.data.toList).toArray⟩ else none
 | _=>none
def strS (P:Program) (c:Call):Bool:=match c.argTypes[0]? with
 | some t=>match P.underlying t with
  | some .string=>true
  | _=>false
 | none=>false
def nilEq (T:TypeId) (c d:Cell):Option Bool:=match P.underlying T,c,d with
 | some (.slice _),.sl _ _ _ _,.nils=>some false
 | some (.slice _),.nils,.nils=>some true
 | some (.slice _),.slx _ _ _ _,.nils=>some false
 | some (.pointer _),.ptr _ _,.nilp=>some false
 | some (.pointer _),.nilp,.nilp=>some true
 | _,_,_=>none
def bnd (rd:Tmp→Option SV) (d:Nat):Option Operand→Option Nat
 | none=>some d
 | some x=>match opd rd x with
  | some (.e (.s (.it .i64 (.ofNat n))))=>some n
  | _=>none
def ptrs:List SV→Option (List (Nat×Nat))
 | []=>some []
 | .e (.s (.ptr k off)) :: r=>match ptrs r with
  | some l=>some ((k,off) :: l)
  | none=>none
 | _ :: _=>none
def lenS (P:Program) (c:Call):Bool:=match c.argTypes[0]? with
 | some t=>match P.underlying t with
  | some (.slice _)=>true
  | _=>false
 | none=>false
def capC (fb:List (Nat×Nat)) (hp:T (It S)) (z:Nat):Cell→Option (Nat×Nat×Nat×Nat)
 | .slx k off len cap=>some (k,off,len,cap)
 | .sl k off len d=>match see fb hp k with
  | some (.blk _ _ (some c) _)=>some (k,off,len,c - d)
  | some (.blk _ cs none pat)=>bif Nat.beq pat.length z && Nat.blt 0 z && Nat.beq off (d*z) && Nat.ble (off+len*z) cs.length then some (k,off,len,(cs.length - off) / z) else none
  | _=>none
 | _=>none
def mapB (P:Program) (t:TypeId):Option (TypeDesc×TypeId):=match P.underlying t with
 | some (.map k e)=>match P.underlying k with
  | some (.int x)=>some (.int x,e)
  | some .string=>some (.string,e)
  | some .bool=>some (.bool,e)
  | _=>none
 | _=>none
def eqK:TypeDesc→Cell→Cell→Option Bool
 | .int _,.it k a,.it k' b=>if k=k' then some (a == b) else none
 | .string,.st a,.st b=>some (a.data.toList == b.data.toList)
 | .bool,.bl a,.bl b=>some (a == b)
 | _,_,_=>none
def findK (kd:TypeDesc) (c:Cell):List (Cell×El×Nat)→Nat→Option (Option Nat)
 | [],_=>some none
 | e :: r,i=>match eqK kd c e.1 with
  | some true=>some (some i)
  | some false=>findK kd c r (i+1)
  | none=>none
def zeroE (P:Program) (t:TypeId):Option El:=match (P.info? t).bind (·.zero) with
 | some z=>match absV z with
  | some (.e x)=>some x
  | _=>none
 | none=>none
def lookB (P:Program) (e:TypeId) (es:List (Cell×El×Nat)):Option (Option Nat)→Option (El×Bool)
 | some (some i)=>match es[i]? with
  | some x=>some (x.2.1,true)
  | none=>none
 | some none=>match zeroE P e with
  | some x=>some (x,false)
  | none=>none
 | none=>none
def lookV (ok:Bool):Option (El×Bool)→Option SV
 | some (x,b)=>some (bif ok then .t [x,.s (.bl b)] else .e x)
 | none=>none
def specP (rd:Tmp→Option SV) (fb:List (Nat×Nat)) (hp:T (It S)):Op→Option SV
 | .indexAddr t x i=>match opd rd x,opd rd i,elemZ P t with
  | some (.e (.s (.sl k off len _))),some (.e (.s (.it _ (.ofNat j)))),some z=>bif Nat.blt j len then some (.e (.s (.ptr k (off+j*z)))) else none
  | some (.e (.s (.slx k off len _))),some (.e (.s (.it _ (.ofNat j)))),some z=>bif Nat.blt j len then some (.e (.s (.ptr k (off+j*z)))) else none
  | some (.e (.s (.ptr k off))),some (.e (.s (.it _ (.ofNat j)))),_=>match arrZ P t with
   | some (l,z)=>bif Nat.blt j l then some (.e (.s (.ptr k (off+j*z)))) else none
   | none=>none
  | _,_,_=>none
 | .build t parts=>match P.underlying t with
  | some (.array len e)=>match sizeB P e,zeroB P t,partsB rd parts.toList with
   | some z,some zc,some ps=>match fillB ((List.range len).map fun i=>(i*z,z)) ps zc with
    | some cs=>some (.e (.a cs))
    | none=>none
   | _,_,_=>none
  | _=>none
 | .load t a=>match opd rd a with
  | some (.e (.s (.ptr k off)))=>match see fb hp k,isAggB P t,sizeB P t with
   | some (.blk _ cs none _),some true,some n=>bif Nat.ble (off+n) cs.length then some (.e (.a ((cs.drop off).take n))) else none
   | some (.blk _ cs none _),some false,_=>match cs[off]? with
    | some c=>some (.e (.s c))
    | none=>none
   | _,_,_=>none
  | _=>none
 | .slice t x lo hi none=>match opd rd x,elemZ P t with
  | some (.e (.s (.slx k off len cap))),some z=>match bnd rd 0 lo,bnd rd len hi with
   | some l,some h=>bif Nat.ble l h && Nat.ble h cap then some (.e (.s (.slx k (bif Nat.beq cap l then off else off+l*z) (h - l) (cap - l)))) else none
   | _,_=>none
  | some (.e (.s (.sl k off len d))),some z=>match bnd rd 0 lo,bnd rd len hi,see fb hp k with
   | some l,some h,some (.blk _ _ (some c) _)=>bif Nat.ble l h && Nat.ble (h+d) c then (bif Nat.beq (c - d) l then some (.e (.s (.sl k off (h - l) (d+l)))) else some (.e (.s (.sl k (off+l*z) (h - l) (d+l))))) else none
   | some l,some h,some (.blk _ cs none pat)=>bif Nat.beq pat.length z && Nat.blt 0 z && Nat.beq off (d*z) && Nat.ble (off+h*z) cs.length then (bif (Nat.beq l 0 && Nat.ble l h || Nat.blt l h) then some (.e (.s (.sl k (off+l*z) (h - l) (d+l)))) else bif Nat.beq l h then some (.e (.s (.sle k off d z l))) else none) else none
   | _,_,_=>none
  | some (.e (.s .nils)),some _=>match bnd rd 0 lo,bnd rd 0 hi with
   | some 0,some 0=>some (.e (.s .nils))
   | _,_=>none
  | _,_=>none
 | .slice t x lo hi (some mx)=>match opd rd x,elemZ P t with
  | some (.e (.s .nils)),some _=>match bnd rd 0 lo,bnd rd 0 hi,opd rd mx with
   | some 0,some 0,some (.e (.s (.it .i64 (.ofNat 0))))=>bif hi.isSome then some (.e (.s .nils)) else none
   | _,_,_=>none
  | some (.e (.s s)),some z=>match capC fb hp z s,opd rd mx with
   | some (k,off,len,cap),some (.e (.s (.it .i64 (.ofNat mx))))=>match bnd rd 0 lo,bnd rd len hi with
    | some l,some h=>bif Nat.ble l h && Nat.ble h mx && Nat.ble mx cap && hi.isSome then some (.e (.s (.slx k (bif Nat.beq mx l then off else off+l*z) (h - l) (mx - l)))) else none
    | _,_=>none
   | _,_=>none
  | _,_=>none
 | .binOp op T x y _=>match opd rd x,opd rd y with
  | some (.e (.s (.it k a))),some (.e (.s (.it k' b)))=>if k=k' then (match arith op k a b with
   | some c=>some (.e (.s (.it k c)))
   | none=>none) else none
  | some (.e (.s (.st a))),some (.e (.s (.st b)))=>match catS op a b with
   | some c=>some (.e (.s (.st c)))
   | none=>none
  | some (.e (.s c)),some (.e (.s d))=>match op,nilEq P T c d with
   | .eql,some b=>some (.e (.s (.bl b)))
   | .neq,some b=>some (.e (.s (.bl !b)))
   | _,_=>none
  | _,_=>none
 | .makeFunc (.func f) first captured=>match first.toList,opds rd captured.toList with
  | [],some vs=>match ptrs vs with
   | some l=>some (.e (.s (.fn f l)))
   | none=>none
  | _,_=>none
 | .convert s d x=>match opd rd x,P.underlying s,P.underlying d with
  | some (.e (.s (.it _ a))),some (.int _),some (.int k)=>some (.e (.s (.it k (k.wrap a))))
  | _,_,_=>none
 | .call c=>match c.callee,opds rd c.args.toList with
  | .builtin .len,some [.e (.s (.sl _ _ len _))]=>bif lenS P c then some (.e (.s (.it .i64 (.ofNat len)))) else none
  | .builtin .len,some [.e (.s (.slx _ _ len _))]=>bif lenS P c then some (.e (.s (.it .i64 (.ofNat len)))) else none
  | .builtin .len,some [.e (.s .nils)]=>bif lenS P c then some (.e (.s (.it .i64 0))) else none
  | .builtin .len,some [.e (.s (.st s))]=>bif strS P c then some (.e (.s (.it .i64 (.ofNat s.data.toList.length)))) else none
  | _,_=>none
 | .lookup t m x ok=>match opd rd m,opd rd x,mapB P t with
  | some (.e (.s (.mp j))),some (.e (.s c)),some (kd,e)=>match see fb hp j with
   | some (.mp es _)=>lookV ok (lookB P e es (findK kd c es 0))
   | _=>none
  | some (.e (.s .nilm)),some (.e (.s c)),some (kd,e)=>lookV ok (lookB P e [] (findK kd c [] 0))
  | _,_,_=>none
 | .index t x i=>match opd rd x,opd rd i,P.underlying t with
  | some (.e (.s (.st s))),some (.e (.s (.it .i64 (.ofNat j)))),some .string=>match s.data.toList[j]? with
   | some b=>some (.e (.s (.it .u8 (.ofNat b.toNat))))
   | none=>none
  | some (.e (.a cs)),some (.e (.s (.it .i64 (.ofNat j)))),some (.array len e)=>match isAggB P e,sizeB P e with
   | some true,some z=>bif Nat.blt j len && Nat.ble (j*z+z) cs.length then some (.e (.a ((cs.drop (j*z)).take z))) else none
   | some false,some 1=>bif Nat.blt j len then (match cs[j]? with
    | some c=>some (.e (.s c))
    | none=>none) else none
   | _,_=>none
  | _,_,_=>none
 | .nilCheck x=>match opd rd x with
  | some (.e (.s (.ptr k off)))=>some (.e (.s (.ptr k off)))
  | _=>none
 | _=>none
end
section
variable {P:Program} {S:Sys} {X:Xt S} {w00 W:World} {fb:List (Nat×Nat)} {ρ:Env} {hp:T (It S)}
theorem elemZ_ok {t:TypeId} {z:Nat} (h:elemZ P t=some z):∃ e,P.underlying t=some (.slice e)∧sizeB P e=some z:=by
 unfold elemZ at h
 split at h
 ·rename_i e he;exact ⟨e,he,h⟩
 ·cases h
theorem run_indexArr {t e:TypeId} {a:Addr} {l j z:Nat} {w:World} (hu:P.underlying t=some (.array l e)) (hz:sizeB P e=some z) {k:IntKind} (hj:j<l):(Instr.indexAt t (.pointer (some a)) (.int k (.ofNat j))).run P w=.ok (.pointer (some (a.add (j*z)))) w:=by
 have hs:=run_sizeOf (P:=P) (w:=w) hz
 simp [Instr.indexAt,Instr.sureAddr,asIntOf,underlying,program,hu,hs,hj,Sem.run_bind,Sem.run,Result.andThen,pure]
theorem run_indexS {t e:TypeId} {a:Addr} {l c j z:Nat} {k:IntKind} {w:World} (hu:P.underlying t=some (.slice e)) (hz:sizeB P e=some z) (hj:j<l):(Instr.indexAt t (.slice (some a) l c) (.int k (.ofNat j))).run P w=.ok (.pointer (some (a.add (j*z)))) w:=by
 have hs:=run_sizeOf (P:=P) (w:=w) hz
 simp [Instr.indexAt,asIntOf,underlying,program,hu,hs,hj,Sem.run_bind,Sem.run,Result.andThen,pure]
theorem run_buildA {t e:TypeId} {len z:Nat} {zc out:List Cell} {ps:List (Nat×El)} {ρ:Env} {w:World} (hu:P.underlying t=some (.array len e)) (hs:sizeB P e=some z) (hz:zeroB P t=some zc) (hf:fillB ((List.range len).map fun i=>(i*z,z)) ps zc=some out) (parts:Array (Nat×Value)) (hps:parts.toList=ps.map fun x=>(x.1,x.2.den ρ)) :
  (Instr.build t parts).run P w=.ok (.agg (out.map (Cell.den ρ)).toArray) w:=by
 obtain ⟨i,z',h1,h2,h3⟩:=zeroB_ok hz ρ
 have hsz:=run_sizeOf (P:=P) (w:=w) hs
 have h4:=fill_go (pl':=fun j=>some (j*z,z)) (fill_ok (ρ:=ρ) hf) (fun j x hx=>by
  rw [List.getElem?_toArray,List.getElem?_map] at hx
  obtain ⟨j',hj,rfl⟩:=Option.map_eq_some_iff.1 hx
  obtain ⟨hlt,he⟩:=List.getElem?_eq_some_iff.1 hj
  rw [List.getElem_range] at he
  rw [he])
 simp only [Instr.build,Sem.run_bind,zeroValue,typeInfo,program,h1,h2,Sem.run,Result.andThen,pure,underlying,hu,hsz,h3,hps]
 rw [h4]
 rfl
theorem run_sliceY {t e:TypeId} {z len cap l h:Nat} {a:Option Addr} {lo hi:Option Value} {w:World} (hu:P.underlying t=some (.slice e)) (hz:sizeB P e=some z) (hlo:(lo=none∧l=0)∨lo=some (.int .i64 (.ofNat l))) (hhi:(hi=none∧h=len)∨hi=some (.int .i64 (.ofNat h))) (hc:h≤cap) (hlh:l≤h) :
  (Instr.sliceAt t (.slice a len cap) lo hi none).run P w=.ok (.slice (if cap=l then a else a.map (·.add (l*z))) (h - l) (cap - l)) w:=by
 have hs:=run_sizeOf (P:=P) (w:=w) hz
 rcases hlo with ⟨rfl,rfl⟩ | rfl <;> rcases hhi with ⟨rfl,rfl⟩ | rfl <;>
 ·simp only [Instr.sliceAt,Instr.slice,Instr.sliceBounds,Instr.sliceBound,asIntOf,underlying,program,hu,Sem.run_bind,Sem.run,Result.andThen,pure,Int.ofNat_eq_natCast]
  simp [hc,hlh,hs]
theorem run_sliceX {t e:TypeId} {z len cap l h mx:Nat} {a:Option Addr} {lo hi:Option Value} {w:World} (hu:P.underlying t=some (.slice e)) (hz:sizeB P e=some z) (hlo:(lo=none∧l=0)∨lo=some (.int .i64 (.ofNat l))) (hhi:hi=some (.int .i64 (.ofNat h))) (hm:mx≤cap) (hc:h≤mx) (hlh:l≤h) :
  (Instr.sliceAt t (.slice a len cap) lo hi (some (.int .i64 (.ofNat mx)))).run P w=.ok (.slice (if mx=l then a else a.map (·.add (l*z))) (h - l) (mx - l)) w:=by
 have hs:=run_sizeOf (P:=P) (w:=w) hz
 subst hhi
 rcases hlo with ⟨rfl,rfl⟩ | rfl <;>
 ·simp only [Instr.sliceAt,Instr.slice,Instr.sliceBounds,Instr.sliceBound,asIntOf,underlying,program,hu,Sem.run_bind,Sem.run,Result.andThen,pure,Int.ofNat_eq_natCast]
  simp [hc,hlh,hm,hs]
theorem capC_ok {z k off len cap:Nat} {c:Cell} (h:capC fb hp z c=some (k,off,len,cap)) (hi:Inv X w00 fb ρ hp W):∃ cap',cap≤cap'∧c.den ρ=.slice (some ⟨(ρ k).pos,off,none⟩) len cap':=by
 unfold capC at h
 split at h
 ·cases h;exact ⟨_,Nat.le_refl _,rfl⟩
 ·rename_i k' off' len' d
  split at h
  ·rename_i T cs c pat hs
   obtain ⟨h1,h2⟩:=see_some hs
   obtain ⟨rest,-,-,-,hcc⟩:=hi.sat k' _ h1 h2
   cases h
   exact ⟨_,Nat.le_refl _,by simp only [Cell.den,hcc]⟩
  ·rename_i T cs pat hs
   obtain ⟨h1,h2⟩:=see_some hs
   obtain ⟨rest,-,-,hkk⟩:=hi.sat k' _ h1 h2
   cases hb:(Nat.beq pat.length z && Nat.blt 0 z && Nat.beq off' (d*z) && Nat.ble (off' + len' * z) cs.length) with
   | false=>rw [hb] at h;cases h
   | true =>
    rw [hb] at h
    cases h
    simp only [Bool.and_eq_true] at hb
    obtain ⟨⟨⟨b1,b2⟩,b3⟩,b4⟩:=hb
    have b1:=Nat.eq_of_beq_eq_true b1
    have b2:0<z:=Nat.le_of_ble_eq_true b2
    have b3:=Nat.eq_of_beq_eq_true b3
    have b4:=Nat.le_of_ble_eq_true b4
    have hlen:=congrArg List.length hkk
    simp only [List.length_map,List.length_append,List.length_flatten,List.map_replicate,List.sum_replicate_nat] at hlen
    have hcap:(cs.length - off) / z≤(ρ k).c - d:=by
     apply Nat.div_le_of_le_mul
     rw [Nat.mul_sub,Nat.mul_comm z (ρ k).c,Nat.mul_comm z d,← b3]
     rw [b1] at hlen
     omega
    exact ⟨_,hcap,rfl⟩
  ·cases h
 ·cases h
theorem bnd_ok {rd:Tmp→Option SV} {d n:Nat} {x:Option Operand} {a:Act} (h:bnd rd d x=some n) (hr:∀ t v,rd t=some v→a.tmps.getD t undef=v.den ρ):(x.map a.eval=none∧n=d)∨x.map a.eval=some (.int .i64 (.ofNat n)):=by
 cases x with
 | none=>simp only [bnd,Option.some.injEq] at h;exact .inl ⟨rfl,h.symm⟩
 | some x =>
  simp only [bnd] at h
  split at h
  ·rename_i m hv
   cases h
   exact .inr (by rw [Option.map_some,opd_ok hv hr];rfl)
  ·cases h
theorem ptrs_ok:∀ {vs:List SV} {l:List (Nat×Nat)},ptrs vs=some l→vs.map (SV.den ρ)=l.map fun x=>Value.pointer (some ⟨(ρ x.1).pos,x.2,none⟩)
 | [],l,h=>by simp only [ptrs,Option.some.injEq] at h;subst h;rfl
 | v :: r,l,h=>by
  unfold ptrs at h
  split at h
  ·rename_i he;cases he
  ·rename_i k off r' he
   cases he
   split at h
   ·rename_i l' h1
    cases h
    rw [List.map_cons,List.map_cons,ptrs_ok h1]
    rfl
   ·cases h
  ·cases h
theorem run_arith {op:BinOp} {k:IntKind} {a b c:Int} {T:TypeId} {w:World} (h:arith op k a b=some c):(binOp op T (.int k a) (.int k b)).run P w=.ok (.int k c) w:=by
 cases op <;> simp only [arith] at h <;> try (cases h;done)
 all_goals first
  | (cases h;simp [binOp,Op.intArith,pure];done)
  | (split at h;(cases h);(rename_i hb;cases h;simp [binOp,Op.intDiv,hb,pure]))
theorem run_nilEq {T:TypeId} {c d:Cell} {b:Bool} {w:World} (h:nilEq P T c d=some b):(Op.equal T (c.den ρ) (d.den ρ)).run P w=.ok b w:=by
 show (Op.equalIn (9999+1) T (c.den ρ) (d.den ρ)).run P w=_
 generalize 9999=dd
 unfold nilEq at h
 split at h <;> first | (cases h;done) | skip
 all_goals
  rename_i hu
  cases h
  simp [Op.equalIn,underlying,program,hu,Cell.den,Sem.run_bind,Sem.run,Result.andThen,pure]
theorem catS_run {op:BinOp} {a b c:ByteArray} {T:TypeId} {w:World} (h:catS op a b=some c):(binOp op T (.string a) (.string b)).run P w=.ok (.string c) w:=by
 unfold catS at h
 split at h
 ·cases hb:Nat.ble (a.data.toList.length+b.data.toList.length) 1000000 with
  | false=>rw [hb] at h;cases h
  | true =>
   rw [hb] at h
   cases h
   have h1:=Nat.le_of_ble_eq_true hb
   have e:a ++ b=⟨(a.data.toList ++ b.data.toList).toArray⟩:=by
    apply ByteArray.ext
    simp
   have h2:¬ (9223372036854775807<((a.size:Int)+(b.size:Int))):=by
    have h3:a.size=a.data.toList.length:=by rw [Array.length_toList];rfl
    have h4:b.size=b.data.toList.length:=by rw [Array.length_toList];rfl
    omega
   simp [binOp,Op.stringOp,pure,e,h2]
 ·cases h
theorem eqK_ok {kd:TypeDesc} {c d:Cell} {b:Bool} (h:eqK kd c d=some b):Instr.sameNow kd (c.den ρ) (d.den ρ)=some b:=by
 unfold eqK at h
 split at h
 ·split at h
  ·rename_i hk;cases h;simp [Cell.den,Instr.sameNow,hk]
  ·cases h
 ·cases h
  simp only [Cell.den,Instr.sameNow,Option.some.injEq]
  rename_i a b
  show (a.data == b.data)=_
  rw [Bool.eq_iff_iff]
  simp
 ·cases h;rfl
 ·cases h
theorem findK_ok {kd:TypeDesc} {c:Cell}:∀ {es:List (Cell×El×Nat)} {i:Nat} {o:Option Nat},findK kd c es i=some o→Instr.findNow kd (c.den ρ) (es.map (enD ρ)) i=some (o.map fun j=>(j,((es[j - i]?).map fun e=>e.2.1.den ρ).getD undef))∧∀ j,o=some j→i≤j∧j<i+es.length∧∃ e,es[j - i]? = some e∧eqK kd c e.1=some true
 | [],i,o,h=>by
  simp only [findK,Option.some.injEq] at h
  subst h
  exact ⟨rfl,fun j h=>by cases h⟩
 | e :: r,i,o,h=>by
  simp only [findK] at h
  split at h
  ·rename_i he
   simp only [Option.some.injEq] at h
   subst h
   refine ⟨?_,fun j h=>?_⟩
   ·simp only [List.map_cons,Instr.findNow]
    rw [show (enD ρ e).key=e.1.den ρ from rfl,eqK_ok he]
    simp [enD]
   ·obtain rfl:=Option.some.inj h
    exact ⟨Nat.le_refl _,by simp,e,by simp,he⟩
  ·rename_i he
   obtain ⟨h1,h2⟩:=findK_ok h
   refine ⟨?_,fun j hj=>?_⟩
   ·simp only [List.map_cons,Instr.findNow]
    rw [show (enD ρ e).key=e.1.den ρ from rfl,eqK_ok he]
    simp only
    rw [h1]
    cases o with
    | none=>rfl
    | some j =>
     have:=(h2 j rfl).1
     simp only [Option.map_some,Option.some.injEq,Prod.mk.injEq,true_and]
     rw [show j - i=(j - (i+1))+1 by omega,List.getElem?_cons_succ]
   ·obtain ⟨h3,h4,e',h5,h6⟩:=h2 j hj
    exact ⟨by omega,by simp;omega,e',by rw [show j - i=(j - (i+1))+1 by omega,List.getElem?_cons_succ];exact h5,h6⟩
  ·cases h
theorem mapB_ok {t:TypeId} {kd:TypeDesc} {e:TypeId} (h:mapB P t=some (kd,e)):∃ k,P.underlying t=some (.map k e)∧P.underlying k=some kd∧∀ (b:Bool) (v:Value) (w:World),(Instr.checkKey b 10000 k v).run P w=.ok () w:=by
 unfold mapB at h
 split at h
 ·rename_i k e' hu
  have hc:∀ d,P.underlying k=some d→(d=.string∨d=.bool∨∃ x,d=.int x)→∀ (b:Bool) (v:Value) (w:World),(Instr.checkKey b 10000 k v).run P w=.ok () w:=fun d hd hcase b v w=>by
   show (Instr.checkKey b (9999+1) k v).run P w=_
   generalize 9999=dd
   rcases hcase with rfl | rfl | ⟨x,rfl⟩ <;> simp [Instr.checkKey,underlying,program,hd,Sem.run_bind,Sem.run,Result.andThen,pure]
  split at h
  ·rename_i x hk;cases h;exact ⟨k,hu,hk,hc _ hk (.inr (.inr ⟨_,rfl⟩))⟩
  ·rename_i hk;cases h;exact ⟨k,hu,hk,hc _ hk (.inl rfl)⟩
  ·rename_i hk;cases h;exact ⟨k,hu,hk,hc _ hk (.inr (.inl rfl))⟩
  ·cases h
 ·cases h
theorem zeroE_ok {t:TypeId} {x:El} (h:zeroE P t=some x) (w:World):(zeroValue t).run P w=.ok (x.den ρ) w:=by
 unfold zeroE at h
 split at h
 ·rename_i z hz
  split at h
  ·rename_i y hy
   cases h
   obtain ⟨i,hi,hz'⟩:=Option.bind_eq_some_iff.1 hz
   have:=absV_den ρ hy
   rw [show SV.den ρ (.e x)=x.den ρ from rfl] at this
   rw [this]
   simp [zeroValue,typeInfo,hi,hz',Sem.run_bind,Sem.run,Result.andThen,pure,program]
  ·cases h
 ·cases h
theorem look_ok {t e:TypeId} {kd:TypeDesc} {c:Cell} {es:List (Cell×El×Nat)} {ok:Bool} {v:SV} {m:Value} (hm:mapB P t=some (kd,e)) (h:lookV ok (lookB P e es (findK kd c es 0))=some v)
  (hes:(∃ r ck,m=.map (some r)∧W.heap[r]? = some (.map (es.map (enD ρ)).toArray ck))∨m=.map none∧es=[]):(Instr.lookup t m (c.den ρ) ok).run P W=.ok (v.den ρ) W:=by
 obtain ⟨k,hu,hk,hck⟩:=mapB_ok hm
 obtain ⟨f,hf⟩:∃ f,findK kd c es 0=f:=⟨_,rfl⟩
 rw [hf] at h
 cases f with
 | none=>cases h
 | some o =>
  obtain ⟨h1,h2⟩:=findK_ok (ρ:=ρ) hf
  have hfk:∀ (w:World),(Instr.findKey k (c.den ρ) (es.map (enD ρ))).run P w=.ok (o.map fun j=>(j,((es[j - 0]?).map fun e=>e.2.1.den ρ).getD undef)) w:=fun w=>by
   simp [Instr.findKey,underlying,program,hk,h1,Sem.run_bind,Sem.run,Result.andThen,pure]
  have hrest:∀ (emp:Bool),(do
    Instr.checkKey emp 10000 k (c.den ρ)
    let (v,ok') ← match ← Instr.findKey k (c.den ρ) (es.map (enD ρ)) with
     | some (_,v)=>pure (v,true)
     | none=>pure (← zeroValue e,false)
    pure (if ok then Value.tuple #[v,.bool ok'] else v):Sem Value).run P W=.ok (v.den ρ) W:=fun emp=>by
   simp only [Sem.run_bind,hck,Result.andThen,hfk]
   cases o with
   | none =>
    simp only [lookB] at h
    split at h
    ·rename_i x hz
     simp only [Option.map_none,Sem.run_bind,zeroE_ok (ρ:=ρ) hz,Result.andThen]
     simp only [lookV,Option.some.injEq] at h
     subst h
     cases ok <;> simp [SV.den,El.den,Cell.den,pure]
    ·cases h
   | some j =>
    obtain ⟨-,-,e',h5,-⟩:=h2 j rfl
    simp only [Nat.sub_zero] at h5
    simp only [lookB,h5] at h
    simp only [Option.map_some,Nat.sub_zero,h5,Option.getD_some]
    simp only [lookV,Option.some.injEq] at h
    subst h
    cases ok <;> simp [SV.den,El.den,Cell.den,Sem.run,pure]
  rcases hes with ⟨r,ck,rfl,hr⟩ | ⟨rfl,rfl⟩
  ·have:=hrest (es.map (enD ρ)).toArray.isEmpty
   unfold Instr.lookup
   simp only [underlying,program,Sem.run_bind,Sem.run,Result.andThen,hu,getObj,hr,pure] at this ⊢
   exact this
  ·have:=hrest (#[]:Array MapEntry).isEmpty
   unfold Instr.lookup
   simp only [underlying,program,Sem.run_bind,Sem.run,Result.andThen,hu,pure] at this ⊢
   exact this
theorem run_part_agg {t:TypeId} {off n:Nat} {cs:List Value} {w:World} (ha:isAggB P t=some true) (hn:sizeB P t=some n):(part t cs.toArray off).run P w=.ok (.agg ((cs.drop off).take n).toArray) w:=by
 have h1:=run_isAgg (P:=P) (w:=w) ha
 have h2:=run_sizeOf (P:=P) (w:=w) hn
 simp [part,Sem.run_bind,h1,h2,Result.andThen,pure,Sem.run,List.extract_eq_take_drop]
theorem run_part_one {t:TypeId} {off:Nat} {cs:List Value} {v:Value} {w:World} (ha:isAggB P t=some false) (hv:cs[off]? = some v):(part t cs.toArray off).run P w=.ok v w:=by
 have h1:=run_isAgg (P:=P) (w:=w) ha
 simp [part,Sem.run_bind,h1,hv,Result.andThen,pure]
theorem specP_ok {rd:Tmp→Option SV} {o:Oper} {v:SV} {a:Act} (h:specP P rd fb hp o.op=some v) (hi:Inv X w00 fb ρ hp W) (hr:∀ t v,rd t=some v→a.tmps.getD t undef=v.den ρ):takes P o a W fun u W'=>u=v.den ρ∧W' = W:=by
 unfold takes execOp
 unfold specP at h
 split at h
 all_goals first | (cases h;done) | (rename_i hop;rw [hop])
 ·-- indexAddr
  split at h
  ·rename_i k off len d kk j z hv hj hz
   obtain ⟨e,hu,hsz⟩:=elemZ_ok hz
   simp only [opd_ok hv hr,opd_ok hj hr,SV.den,El.den,Cell.den]
   cases hb:Nat.blt j len with
   | false=>rw [hb] at h;cases h
   | true =>
    rw [hb] at h
    cases h
    have hlt:j<len:=Nat.le_of_ble_eq_true hb
    have hrun:=run_indexS (P:=P) (w:=W) (a:=⟨(ρ k).pos,off,none⟩) (c:=(ρ k).c - d) (k:=kk) hu hsz hlt
    refine takes_value hrun ⟨?_,rfl⟩
    simp [add_off]
  ·rename_i k off len d kk j z hv hj hz
   obtain ⟨e,hu,hsz⟩:=elemZ_ok hz
   simp only [opd_ok hv hr,opd_ok hj hr,SV.den,El.den,Cell.den]
   cases hb:Nat.blt j len with
   | false=>rw [hb] at h;cases h
   | true =>
    rw [hb] at h
    cases h
    have hlt:j<len:=Nat.le_of_ble_eq_true hb
    have hrun:=run_indexS (P:=P) (w:=W) (a:=⟨(ρ k).pos,off,none⟩) (c:=d) (k:=kk) hu hsz hlt
    refine takes_value hrun ⟨?_,rfl⟩
    simp [add_off]
  ·rename_i k off _ j hv hj
   split at h
   ·rename_i l z hz
    unfold arrZ at hz
    split at hz
    ·rename_i l' e hu
     split at hz
     ·rename_i z' hsz
      cases hz
      simp only [opd_ok hv hr,opd_ok hj hr,SV.den,El.den,Cell.den]
      cases hb:Nat.blt j l with
      | false=>rw [hb] at h;cases h
      | true =>
       rw [hb] at h
       cases h
       refine takes_value (run_indexArr (P:=P) (w:=W) (a:=⟨(ρ k).pos,off,none⟩) hu hsz (Nat.le_of_ble_eq_true hb)) ⟨?_,rfl⟩
       simp [add_off]
     ·cases hz
    ·cases hz
   ·cases h
  ·cases h
 ·-- build
  rename_i t parts
  split at h
  ·rename_i len e hu
   split at h
   ·rename_i z zc ps hs hz hp
    split at h
    ·rename_i cs hf
     cases h
     have hparts:=parts_ok hr hp
     exact takes_value (run_buildA hu hs hz hf _ (by rw [Array.toList_map];exact hparts)) ⟨rfl,rfl⟩
    ·cases h
   ·cases h
  ·cases h
 ·-- load
  split at h
  ·rename_i k off hv
   simp only [opd_ok hv hr,SV.den,El.den,Cell.den]
   split at h
   ·rename_i T cs pat n hs hag hsz
    obtain ⟨h1,h2⟩:=see_some hs
    obtain ⟨rest,hb,-,-⟩:=hi.sat k _ h1 h2
    cases hle:Nat.ble (off+n) cs.length with
    | false=>rw [hle] at h;cases h
    | true =>
     rw [hle] at h
     cases h
     have hle:=Nat.le_of_ble_eq_true hle
     refine takes_value (run_load_agg hag hsz hb (by simp;omega)) ⟨?_,rfl⟩
     rw [List.drop_append_of_le_length (by simp;omega),List.take_append_of_le_length (by simp;omega)]
     simp [List.map_drop,List.map_take]
   ·rename_i T cs pat hs hag
    obtain ⟨h1,h2⟩:=see_some hs
    obtain ⟨rest,hb,-,-⟩:=hi.sat k _ h1 h2
    split at h
    ·rename_i c hc
     cases h
     have hlt:=(List.getElem?_eq_some_iff.1 hc).1
     refine takes_value (run_load_one hag hb (v:=c.den ρ) ?_) ⟨rfl,rfl⟩
     rw [List.getElem?_append_left (by simpa using hlt),List.getElem?_map,hc]
     rfl
    ·cases h
   ·cases h
  ·cases h
 ·-- slice
  split at h
  ·rename_i k off len cap z hv hz
   obtain ⟨e,hu,hsz⟩:=elemZ_ok hz
   simp only [opd_ok hv hr,SV.den,El.den,Cell.den,Option.map_none]
   split at h
   ·rename_i l hh hlo hhi
    cases hb:(Nat.ble l hh && Nat.ble hh cap) with
    | false=>rw [hb] at h;cases h
    | true =>
     rw [hb,cond_true] at h
     cases h
     simp only [Bool.and_eq_true] at hb
     have hrun:=run_sliceY (P:=P) (w:=W) (a:=some ⟨(ρ k).pos,off,none⟩) (cap:=cap) hu hsz (bnd_ok hlo hr) (bnd_ok hhi hr) (Nat.le_of_ble_eq_true hb.2) (Nat.le_of_ble_eq_true hb.1)
     refine takes_value hrun ⟨?_,rfl⟩
     cases hq:Nat.beq cap l with
     | true=>rw [if_pos (Nat.eq_of_beq_eq_true hq)];rfl
     | false =>
      rw [if_neg fun e=>by rw [e,Nat.beq_refl] at hq;cases hq]
      simp only [Option.map_some,add_off,cond_false]
   ·cases h
  ·rename_i k off len d z hv hz
   obtain ⟨e,hu,hsz⟩:=elemZ_ok hz
   simp only [opd_ok hv hr,SV.den,El.den,Cell.den,Option.map_none]
   split at h
   ·rename_i l hh T cs c pat hlo hhi hs
    obtain ⟨h1,h2⟩:=see_some hs
    obtain ⟨rest,-,-,-,hcc⟩:=hi.sat k _ h1 h2
    cases hb:(Nat.ble l hh && Nat.ble (hh+d) c) with
    | false=>rw [hb] at h;cases h
    | true =>
     rw [hb,cond_true] at h
     simp only [Bool.and_eq_true] at hb
     have hb1:=Nat.le_of_ble_eq_true hb.1
     have hb2:=Nat.le_of_ble_eq_true hb.2
     have hrun:=run_sliceY (P:=P) (w:=W) (a:=some ⟨(ρ k).pos,off,none⟩) (cap:=(ρ k).c - d) hu hsz (bnd_ok hlo hr) (bnd_ok hhi hr) (by omega) hb1
     refine takes_value hrun ⟨?_,rfl⟩
     rw [hcc]
     cases hq:Nat.beq (c - d) l with
     | true =>
      rw [hq] at h
      cases h
      rw [if_pos (Nat.eq_of_beq_eq_true hq)]
      simp only [hcc,Nat.sub_sub]
     | false =>
      rw [hq] at h
      cases h
      rw [if_neg fun e=>by rw [e,Nat.beq_refl] at hq;cases hq]
      simp only [hcc,Nat.sub_sub,Option.map_some,add_off]
   ·rename_i l hh T cs pat hlo hhi hs
    obtain ⟨h1,h2⟩:=see_some hs
    obtain ⟨rest,-,-,hkk⟩:=hi.sat k _ h1 h2
    cases hb:(Nat.beq pat.length z && Nat.blt 0 z && Nat.beq off (d*z) && Nat.ble (off+hh*z) cs.length) with
    | false=>rw [hb] at h;cases h
    | true =>
     rw [hb,cond_true] at h
     simp only [Bool.and_eq_true] at hb
     obtain ⟨⟨⟨b1,b2⟩,b3⟩,b4⟩:=hb
     have b1:=Nat.eq_of_beq_eq_true b1
     have b2:0<z:=Nat.le_of_ble_eq_true b2
     have b3:=Nat.eq_of_beq_eq_true b3
     have b4:=Nat.le_of_ble_eq_true b4
     have hlen:=congrArg List.length hkk
     simp only [List.length_map,List.length_append,List.length_flatten,List.map_replicate,List.sum_replicate_nat] at hlen
     have hcap:(d+hh)*z≤(ρ k).c*z:=by
      rw [Nat.add_mul,← b3]
      rw [b1] at hlen
      omega
     have hcap:=Nat.le_of_mul_le_mul_right hcap b2
     cases b5:(Nat.beq l 0 && Nat.ble l hh || Nat.blt l hh) with
     | false =>
      rw [b5,cond_false] at h
      cases b6:Nat.beq l hh with
      | false=>rw [b6] at h;cases h
      | true =>
       rw [b6] at h
       cases h
       have b6:=Nat.eq_of_beq_eq_true b6
       subst b6
       have hrun:=run_sliceY (P:=P) (w:=W) (a:=some ⟨(ρ k).pos,off,none⟩) (cap:=(ρ k).c - d) hu hsz (bnd_ok hlo hr) (bnd_ok hhi hr) (by omega) (Nat.le_refl _)
       refine takes_value hrun ⟨?_,rfl⟩
       simp only [Nat.sub_self]
       split <;> simp [add_off]
     | true =>
      rw [b5,cond_true] at h
      cases h
      simp only [Bool.and_eq_true,Bool.or_eq_true] at b5
      have hlh:l≤hh∧(l=0∨l<hh):=by
       rcases b5 with ⟨b5,b6⟩ | b5
       ·exact ⟨Nat.le_of_ble_eq_true b6,.inl (Nat.eq_of_beq_eq_true b5)⟩
       ·have:l<hh:=Nat.le_of_ble_eq_true b5
        exact ⟨by omega,.inr this⟩
      have hrun:=run_sliceY (P:=P) (w:=W) (a:=some ⟨(ρ k).pos,off,none⟩) (cap:=(ρ k).c - d) hu hsz (bnd_ok hlo hr) (bnd_ok hhi hr) (by omega) hlh.1
      refine takes_value hrun ⟨?_,rfl⟩
      have ha:(if (ρ k).c - d=l then some (⟨(ρ k).pos,off,none⟩:Addr) else (some (⟨(ρ k).pos,off,none⟩:Addr)).map (·.add (l*z)))=some ⟨(ρ k).pos,off+l*z,none⟩:=by
       rcases hlh.2 with e | e
       ·subst e
        simp [add_off]
       ·rw [if_neg (by omega)]
        simp [add_off]
      rw [ha]
      simp only [Nat.sub_sub]
   ·cases h
  ·rename_i z hv hz
   obtain ⟨e,hu,hsz⟩:=elemZ_ok hz
   split at h
   ·rename_i hlo hhi
    cases h
    have hrun:=run_sliceY (P:=P) (w:=W) (a:=none) (len:=0) (cap:=0) hu hsz (bnd_ok (ρ:=ρ) hlo hr) (bnd_ok (ρ:=ρ) hhi hr) (Nat.le_refl _) (Nat.le_refl _)
    simp only [opd_ok hv hr,SV.den,El.den,Cell.den,Option.map_none]
    exact takes_value hrun ⟨rfl,rfl⟩
   ·cases h
  ·cases h
 ·-- slice with a maximum
  split at h
  ·rename_i z hv hz
   obtain ⟨e,hu,hsz⟩:=elemZ_ok hz
   split at h
   ·rename_i hlo hhi hmx
    obtain ⟨hb,rfl⟩:=bif_some h
    have hhi':=(bnd_ok (ρ:=ρ) hhi hr).resolve_left fun h=>by
     obtain ⟨y,hy⟩:=Option.isSome_iff_exists.1 hb
     rw [hy] at h
     cases h.1
    have hrun:=run_sliceX (P:=P) (w:=W) (a:=none) (len:=0) (cap:=0) hu hsz (bnd_ok (ρ:=ρ) hlo hr) hhi' (Nat.le_refl _) (Nat.le_refl _) (Nat.le_refl _)
    simp only [opd_ok hv hr,opd_ok hmx hr,SV.den,El.den,Cell.den,Option.map_some]
    exact takes_value hrun ⟨rfl,rfl⟩
   ·cases h
  ·rename_i s z hv hz
   obtain ⟨e,hu,hsz⟩:=elemZ_ok hz
   split at h
   ·rename_i k off len cap mx hcp hmx
    obtain ⟨cap',hcap,hden⟩:=capC_ok hcp hi
    split at h
    ·rename_i l hh hlo hhi
     obtain ⟨hb,rfl⟩:=bif_some h
     simp only [Bool.and_eq_true] at hb
     have hmax:=opd_ok (ρ:=ρ) hmx hr
     have hsome:=hb.2
     have hhi':=(bnd_ok (ρ:=ρ) hhi hr).resolve_left fun h=>by
      obtain ⟨y,hy⟩:=Option.isSome_iff_exists.1 hsome
      rw [hy] at h
      cases h.1
     have hrun:=run_sliceX (P:=P) (w:=W) (a:=some ⟨(ρ k).pos,off,none⟩) (len:=len) (cap:=cap') hu hsz (bnd_ok (ρ:=ρ) hlo hr) hhi' (Nat.le_trans (Nat.le_of_ble_eq_true hb.1.2) hcap) (Nat.le_of_ble_eq_true hb.1.1.2) (Nat.le_of_ble_eq_true hb.1.1.1)
     have hx:=(opd_ok (ρ:=ρ) hv hr).trans hden
     simp only [hx,Option.map_some,hmax]
     refine takes_value hrun ⟨?_,rfl⟩
     cases hq:Nat.beq mx l with
     | true=>rw [if_pos (Nat.eq_of_beq_eq_true hq)];rfl
     | false =>
      rw [if_neg fun e=>by rw [e,Nat.beq_refl] at hq;cases hq]
      simp only [SV.den,El.den,Cell.den,Option.map_some,add_off,cond_false]
    ·cases h
   ·cases h
  ·cases h
 ·-- binOp
  rename_i op T x y u
  split at h
  ·rename_i k a' k' b hx hy
   split at h
   ·rename_i hk
    subst hk
    split at h
    ·rename_i c hc
     cases h
     simp only [opd_ok hx hr,opd_ok hy hr,SV.den,El.den,Cell.den]
     refine takes_value (v:=.int k c) (w':=W) ?_ ⟨rfl,rfl⟩
     simp only [Sem.run_bind,run_guard (P:=P) (op:=op) (T:=T) (x:=x) (y:=y) (a:=.int k a') (b:=.int k b) (w:=W) rfl (by simp),Result.andThen]
     exact run_arith hc
    ·cases h
   ·cases h
  ·rename_i a1 b1 hx hy
   split at h
   ·rename_i c1 hc
    cases h
    simp only [opd_ok hx hr,opd_ok hy hr,SV.den,El.den,Cell.den]
    refine takes_value (v:=.string c1) (w':=W) ?_ ⟨rfl,rfl⟩
    simp only [Sem.run_bind,run_guard (P:=P) (op:=op) (T:=T) (x:=x) (y:=y) (a:=.string a1) (b:=.string b1) (w:=W) rfl (by simp),Result.andThen]
    exact catS_run hc
   ·cases h
  ·rename_i c d _ _ hx hy
   simp only [opd_ok hx hr,opd_ok hy hr,SV.den,El.den]
   have hg:∀ op,(eqGuard op T x y (c.den ρ) (d.den ρ)).run P W=.ok () W:=fun op=>run_guard (c.flat ρ) (by cases c <;> simp [Cell.den])
   split at h
   ·rename_i b hn
    cases h
    refine takes_value (v:=.bool b) (w':=W) ?_ ⟨rfl,rfl⟩
    simp only [Sem.run_bind,hg,Result.andThen]
    have he:=run_nilEq (ρ:=ρ) (w:=W) hn
    have:binOp .eql T (c.den ρ) (d.den ρ)=(do pure (.bool (← Op.equal T (c.den ρ) (d.den ρ)))):=by
     unfold nilEq at hn
     split at hn <;> first | (cases hn;done) | rfl
    rw [this]
    simp only [Sem.run_bind,he,Result.andThen]
    rfl
   ·rename_i b hn
    cases h
    refine takes_value (v:=.bool !b) (w':=W) ?_ ⟨rfl,rfl⟩
    simp only [Sem.run_bind,hg,Result.andThen]
    have he:=run_nilEq (ρ:=ρ) (w:=W) hn
    have:binOp .neq T (c.den ρ) (d.den ρ)=(do pure (.bool (!(← Op.equal T (c.den ρ) (d.den ρ))))):=by
     unfold nilEq at hn
     split at hn <;> first | (cases hn;done) | rfl
    rw [this]
    simp only [Sem.run_bind,he,Result.andThen]
    rfl
   ·cases h
  ·cases h
 ·-- makeFunc
  rename_i f first captured
  split at h
  ·rename_i vs hf hc
   split at h
   ·rename_i l hl
    cases h
    have h1:first.map a.eval=#[]:=by apply Array.ext';rw [Array.toList_map,hf];rfl
    have h2:captured.map a.eval=(l.map fun x=>Value.pointer (some ⟨(ρ x.1).pos,x.2,none⟩)).toArray:=by
     apply Array.ext'
     rw [Array.toList_map,opds_ok hr hc,ptrs_ok hl]
    refine takes_value (v:=.func (.func f) (first.map a.eval) (captured.map a.eval)) (w':=W) rfl ⟨?_,rfl⟩
    rw [h1,h2]
    rfl
   ·cases h
  ·cases h
 ·-- convert
  rename_i s d x
  split at h
  ·rename_i k0 a' k1 k hx hu hd
   cases h
   simp only [opd_ok hx hr,SV.den,El.den,Cell.den]
   refine takes_value (v:=.int k (k.wrap a')) (w':=W) ?_ ⟨rfl,rfl⟩
   simp [convert,underlying,program,hd,hu,Conv.intToInt,Sem.run_bind,Sem.run,Result.andThen,pure]
  ·cases h
 ·-- len
  rename_i c
  split at h
  ·rename_i k off len d hc ha
   cases hb:lenS P c with
   | false=>rw [hb] at h;cases h
   | true =>
    rw [hb] at h
    cases h
    have hargs:c.args.map a.eval=#[.slice (some ⟨(ρ k).pos,off,none⟩) len ((ρ k).c - d)]:=by
     apply Array.ext'
     rw [Array.toList_map,opds_ok hr ha]
     rfl
    simp only
    rw [run_len hc (show lenB P c=true from hb) hargs]
    exact ⟨rfl,rfl⟩
  ·rename_i k off len d hc ha
   cases hb:lenS P c with
   | false=>rw [hb] at h;cases h
   | true =>
    rw [hb] at h
    cases h
    have hargs:c.args.map a.eval=#[.slice (some ⟨(ρ k).pos,off,none⟩) len d]:=by
     apply Array.ext'
     rw [Array.toList_map,opds_ok hr ha]
     rfl
    simp only
    rw [run_len hc (show lenB P c=true from hb) hargs]
    exact ⟨rfl,rfl⟩
  ·rename_i hc ha
   cases hb:lenS P c with
   | false=>rw [hb] at h;cases h
   | true =>
    rw [hb] at h
    cases h
    have hargs:c.args.map a.eval=#[.slice none 0 0]:=by
     apply Array.ext'
     rw [Array.toList_map,opds_ok hr ha]
     rfl
    simp only
    rw [run_len hc (show lenB P c=true from hb) hargs]
    exact ⟨rfl,rfl⟩
  ·rename_i s hc ha
   cases hb:strS P c with
   | false=>rw [hb] at h;cases h
   | true =>
    rw [hb] at h
    cases h
    have hargs:c.args.map a.eval=#[.string s]:=by
     apply Array.ext'
     rw [Array.toList_map,opds_ok hr ha]
     rfl
    unfold strS at hb
    split at hb
    ·rename_i t ht
     split at hb
     ·rename_i hu
      have hrun:(do let d ← resolve a.eval c o.type;invoke d.target d.args:Sem Next).run P W=.ok (.value (.int .i64 (s.size:Int))) W:=by
       simp [resolve,hc,invoke,builtin,Builtin.len_,hargs,ht,hu,underlying,program,goInt,Sem.run_bind,Sem.run,Result.andThen,pure]
      simp only
      rw [hrun]
      refine ⟨?_,rfl⟩
      simp only [SV.den,El.den,Cell.den]
      rfl
     ·cases hb
    ·cases hb
  ·cases h
 ·-- lookup
  split at h
  ·rename_i j c kd e hm hc ht
   split at h
   ·rename_i es ck hs
    obtain ⟨h1,h2⟩:=see_some hs
    have hsat:W.heap[(ρ j).pos]? = some (.map (es.map (enD ρ)).toArray ck):=hi.sat j _ h1 h2
    simp only [opd_ok hm hr,opd_ok hc hr]
    exact takes_value (look_ok (ρ:=ρ) ht h (.inl ⟨_,ck,rfl,hsat⟩)) ⟨rfl,rfl⟩
   ·cases h
  ·rename_i c kd e hm hc ht
   simp only [opd_ok hm hr,opd_ok hc hr]
   exact takes_value (look_ok (ρ:=ρ) ht h (.inr ⟨rfl,rfl⟩)) ⟨rfl,rfl⟩
  ·cases h
 ·-- index
  split at h
  ·rename_i s j hx hj hu
   split at h
   ·rename_i b hb
    cases h
    simp only [opd_ok hx hr,opd_ok hj hr,SV.den,El.den,Cell.den]
    refine takes_value (v:=.int .u8 (Int.ofNat b.toNat)) (w':=W) ?_ ⟨rfl,rfl⟩
    have hb':s[j]? = some b:=by
     obtain ⟨h1,h2⟩:=List.getElem?_eq_some_iff.1 hb
     have h3:j<s.size:=by rw [show s.size=s.data.toList.length by rw [Array.length_toList];rfl];exact h1
     rw [getElem?_pos s j h3]
     congr 1
    simp [Instr.index,asIntOf,underlying,program,hu,hb',Sem.run_bind,Sem.run,Result.andThen,pure]
   ·cases h
  ·rename_i cs j len e hx hj hu
   split at h
   ·rename_i z hag hsz
    cases hb:(Nat.blt j len && Nat.ble (j*z+z) cs.length) with
    | false=>rw [hb] at h;cases h
    | true =>
     rw [hb] at h
     cases h
     simp only [Bool.and_eq_true] at hb
     have b1:j<len:=Nat.le_of_ble_eq_true hb.1
     have b2:=Nat.le_of_ble_eq_true hb.2
     simp only [opd_ok hx hr,opd_ok hj hr,SV.den,El.den,Cell.den]
     refine takes_value (v:=.agg (((cs.drop (j*z)).take z).map (Cell.den ρ)).toArray) (w':=W) ?_ ⟨rfl,rfl⟩
     have hp:=run_part_agg (P:=P) (cs:=cs.map (Cell.den ρ)) (off:=j*z) (w:=W) hag hsz
     simp [Instr.index,asIntOf,underlying,program,hu,b1,run_sizeOf hsz,hp,Sem.run_bind,Sem.run,Result.andThen,pure,List.map_take,List.map_drop]
   ·rename_i hag hsz
    cases hb:Nat.blt j len with
    | false=>rw [hb] at h;cases h
    | true =>
     rw [hb,cond_true] at h
     have b1:j<len:=Nat.le_of_ble_eq_true hb
     split at h
     ·rename_i c hc
      cases h
      simp only [opd_ok hx hr,opd_ok hj hr,SV.den,El.den,Cell.den]
      refine takes_value (v:=c.den ρ) (w':=W) ?_ ⟨rfl,rfl⟩
      have hp:=run_part_one (P:=P) (cs:=cs.map (Cell.den ρ)) (off:=j) (v:=c.den ρ) (w:=W) hag (by rw [List.getElem?_map,hc];rfl)
      simp [Instr.index,asIntOf,underlying,program,hu,b1,run_sizeOf hsz,hp,Sem.run_bind,Sem.run,Result.andThen,pure]
     ·cases h
   ·cases h
  ·cases h
 ·-- nilCheck
  split at h
  ·rename_i k off hx
   cases h
   simp only [opd_ok hx hr,SV.den,El.den,Cell.den]
   exact ⟨rfl,rfl⟩
  ·cases h
end
end Rx.Ry
end Go.Proofs.YtmijlcldmefggaaGreatDoor
