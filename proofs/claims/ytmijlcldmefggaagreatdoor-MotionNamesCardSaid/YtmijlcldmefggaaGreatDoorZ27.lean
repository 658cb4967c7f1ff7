/- What the proof rests on, part 27. -/
import Derived.Test.YtmijlcldmefggaaGreatDoorZ26
import Derived.Laws.MakeOwn
namespace Go.Proofs.YtmijlcldmefggaaGreatDoor
set_option maxRecDepth 100000
set_option maxHeartbeats 80000000
namespace Rx.Ry
open Go.RowKit
section
variable (P:Program) {S:Sys} (X:Xt S) (H:Tests S) (cons:List (Con S))
noncomputable def newU (hp:T (It S)) (n:Nat) (e:TypeId) (cs:List Cell) (len:Nat) (pat:List Nat):Option (Rs S):=
 bif X.okP pat && eqL (cs.map kdC) (List.replicate len pat).flatten && okL n cs && Nat.blt n top then some ⟨.e (.s (.sl n 0 len 0)),hp.set (some (.blk e cs none pat)) n,n+1,[]⟩ else none
noncomputable def growU (hp:T (It S)) (n k:Nat) (e:TypeId) (cs:List Cell) (len:Nat) (pat:List Nat):Option (Rs S):=
 bif X.okP pat && eqL (cs.map kdC) (List.replicate len pat).flatten && okL n cs && Nat.blt n top && Nat.blt k n then some ⟨.e (.s (.sl n 0 len 0)),(hp.set none k).set (some (.blk e cs none pat)) n,n+1,[k]⟩ else none
def cellsOf (fb:List (Nat×Nat)) (hp:T (It S)) (z:Nat):SV→Option (Nat×List Cell)
 | .e (.s .nils)=>some (0,[])
 | .e (.s (.sle _ _ _ _ _))=>some (0,[])
 | .e (.s (.sl k off len _))=>match see fb hp k with
  | some (.blk _ cs _ _)=>bif Nat.ble (off+len*z) cs.length then some (len,(cs.drop off).take (len*z)) else none
  | _=>none
 | .e (.s (.slx k off len _))=>match see fb hp k with
  | some (.blk _ cs _ _)=>bif Nat.ble (off+len*z) cs.length then some (len,(cs.drop off).take (len*z)) else none
  | _=>none
 | _=>none
def basC (fb:List (Nat×Nat)) (hp:T (It S)):SV→Option (Nat×Nat×Nat×Nat)
 | .e (.s (.slx k off len cap))=>some (k,off,len,cap)
 | .e (.s (.sl k off len d))=>match see fb hp k with
  | some (.blk _ _ (some c) _)=>some (k,off,len,c - d)
  | _=>none
 | _=>none
noncomputable def appG (fb:List (Nat×Nat)) (hp:T (It S)) (n:Nat) (c:Call):List SV→Option (Rs S)
 | [s,x]=>match c.argTypes.toList with
  | [t,t']=>if t=t' then (match P.underlying t with
   | some (.slice e)=>match P.info? e,zeroB P e with
    | some i,some zc=>match cellsOf fb hp zc.length x,cellsOf fb hp zc.length s with
     | some (m,news),some (len',olds)=>bif Nat.beq i.size zc.length && Nat.blt 0 zc.length then (bif Nat.beq m 0 then (match s with
      | .e (.s .nils)=>pureR hp n s
      | _=>match basC fb hp s with
       | some (_,_,len,cap)=>bif Nat.ble len cap then pureR hp n s else none
       | none=>none) else
      match basC fb hp s with
      | some (_,_,len,cap)=>bif Nat.beq len len' && Nat.blt cap (len+m) && Nat.ble ((len+m)*i.bytes) 140737488355328 && Nat.ble (len+m) 9223372036854775807 then newU X hp n e (olds ++ news) (len+m) (zc.map kdC) else none
      | none=>none) else none
     | _,_=>none
    | _,_=>none
   | _=>none) else none
  | _=>none
 | _=>none
noncomputable def appE (fb:List (Nat×Nat)) (hp:T (It S)) (n:Nat) (c:Call):List SV→Option (Rs S)
 | [s,x]=>match c.argTypes.toList with
  | [t,t']=>if t=t' then (match P.underlying t with
   | some (.slice e)=>match P.info? e,zeroB P e with
    | some i,some zc=>match cellsOf fb hp zc.length x with
     | some (m,news)=>bif Nat.beq i.size zc.length && Nat.blt 0 zc.length && Nat.blt 0 m then (match s with
      | .e (.s .nils)=>bif Nat.ble (m*i.bytes) 140737488355328 && Nat.ble m 9223372036854775807 then newU X hp n e news m (zc.map kdC) else none
      | .e (.s (.sl k 0 len 0))=>match see fb hp k with
       | some (.blk T cs (some cap) _)=>bif Nat.ble (len+m) cap then (if T=e then storeR fb hp n k (len*zc.length) news (.e (.s (.sl k 0 (len+m) 0))) else none)
        else bif Nat.ble (len*zc.length) cs.length && Nat.ble ((len+m)*i.bytes) 140737488355328 && Nat.ble (len+m) 9223372036854775807 then newU X hp n e (cs.take (len*zc.length) ++ news) (len+m) (zc.map kdC) else none
       | some (.blk T cs none pat)=>bif Nat.beq (len*zc.length) cs.length && Nat.ble ((len+m)*i.bytes) 140737488355328 && Nat.ble (len+m) 9223372036854775807 && decide (T=e) && eqL pat (zc.map kdC) then growU X hp n k e (cs ++ news) (len+m) pat else none
       | _=>none
      | _=>none) else none
     | none=>none
    | _,_=>none
   | _=>none) else none
  | _=>none
 | _=>none
noncomputable def copyE (fb:List (Nat×Nat)) (hp:T (It S)) (n:Nat) (c:Call):List SV→Option (Rs S)
 | [.e (.s (.sl k off len _)),x]=>match c.argTypes.toList with
  | t :: _=>match elemZ P t with
   | some z=>match cellsOf fb hp z x with
    | some (m,news)=>storeR fb hp n k off (news.take (Nat.min m len*z)) (.e (.s (.it .i64 (.ofNat (Nat.min m len)))))
    | none=>none
   | none=>none
  | []=>none
 | _=>none
def setLen:Cell→Nat→Cell
 | .sl k off _ d,l=>.sl k off l d
 | .slx k off _ c,l=>.slx k off l c
 | c,_=>c
noncomputable def appI (fb:List (Nat×Nat)) (hp:T (It S)) (n:Nat) (c:Call):List SV→Option (Rs S)
 | [.e (.s s),x]=>match c.argTypes.toList with
  | [t,t']=>if t=t' then (match elemZ P t with
   | some z=>match cellsOf fb hp z x,capC fb hp z s with
    | some (m,news),some (k,off,len,cap)=>bif Nat.ble (len+m) cap then storeR fb hp n k (off+len*z) news (.e (.s (setLen s (len+m)))) else none
    | _,_=>none
   | none=>none) else none
  | _=>none
 | _=>none
noncomputable def clrE (fb:List (Nat×Nat)) (hp:T (It S)) (n:Nat) (c:Call):List SV→Option (Rs S)
 | [.e (.s s)]=>match c.argTypes.toList with
  | t :: _=>match P.underlying t with
   | some (.slice e)=>match zeroB P e with
    | some zc=>match capC fb hp zc.length s with
     | some (k,off,len,_)=>bif Nat.blt 0 zc.length then storeR fb hp n k off (List.replicate len zc).flatten (.t []) else none
     | none=>none
    | none=>none
   | _=>none
  | []=>none
 | _=>none
def elsOf:List SV→Option (List El)
 | []=>some []
 | .e x :: r=>match elsOf r with
  | some l=>some (x :: l)
  | none=>none
 | _ :: _=>none
def setM:List (Cell×El×Nat)→Nat→El→List (Cell×El×Nat)
 | [],_,_=>[]
 | e :: r,0,x=>(e.1,x,e.2.2) :: r
 | e :: r,i+1,x=>e :: setM r i x
noncomputable def insE (rd:Tmp→Option SV) (fb:List (Nat×Nat)) (hp:T (It S)) (n:Nat) (t:TypeId) (m k v:Operand):Option (Rs S):=match opd rd m,opd rd k,opd rd v with
 | some (.e (.s (.mp j))),some (.e (.s c)),some (.e x)=>match see fb hp j,mapB P t with
  | some (.mp es ck),some (kd,_)=>bif okC n c && okL n x.cells && Nat.blt n top then (match findK kd c es 0 with
   | some (some i)=>some ⟨.und,hp.set (some (.mp (setM es i x) ck)) j,n,[j]⟩
   | some none=>some ⟨.und,hp.set (some (.mp (es ++ [(c,x,ck)]) (ck+1))) j,n,[j]⟩
   | none=>none) else none
  | _,_=>none
 | _,_,_=>none
def placesZ (z len:Nat):List (Nat×Nat):=(List.range len).map fun i=>(i*z,z)
noncomputable def specE (call:CallT S) (rd:Tmp→Option SV) (fb:List (Nat×Nat)) (hp:T (It S)) (n:Nat):Op→Option (Rs S)
 | .makeSlice t l c=>match opd rd l,opd rd c,P.underlying t with
  | some (.e (.s (.it _ (.ofNat l)))),some (.e (.s (.it _ (.ofNat c)))),some (.slice e)=>match P.info? e,zeroB P e with
   | some i,some zc=>bif Nat.beq i.size zc.length && Nat.blt 0 zc.length && Nat.ble l c && Nat.ble (i.bytes*c) 281474976710656 && Nat.ble c 9223372036854775807 then newR X hp n e (List.replicate c zc).flatten c (zc.map kdC) (.e (.s (.sl n 0 l 0))) else none
   | _,_=>none
  | _,_,_=>none
 | .buildSlice t len parts=>match P.underlying t,partsB rd parts.toList with
  | some (.slice e),some ps=>match P.info? e,zeroB P e with
   | some i,some zc=>bif Nat.beq i.size zc.length && Nat.blt 0 zc.length && Nat.ble (len*zc.length) 16777216 then (match fillB (placesZ zc.length len) ps (List.replicate len zc).flatten with
    | some cs=>newR X hp n e cs len (zc.map kdC) (.e (.s (.sl n 0 len 0)))
    | none=>none) else none
   | _,_=>none
  | _,_=>none
 | .call c=>match opds rd c.args.toList with
  | some args=>match c.callee with
   | .builtin .append=>match appE P X fb hp n c args with
    | some r=>some r
    | none=>match appG P X fb hp n c args with
     | some r=>some r
     | none=>appI P fb hp n c args
   | .builtin .copy=>copyE P fb hp n c args
   | .builtin .clear=>clrE P fb hp n c args
   | .value (.func f)=>bif callB P f then call fb (.f f) args hp n else none
   | .value (.tmp t)=>match rd t with
    | some (.e (.s (.fn f l)))=>bif callB P f then call fb (.f f) (args ++ l.map ptS) hp n else none
    | some (.e (.s (.yl k)))=>call fb (.y k) args hp n
    | some (.e (.s (.og k)))=>match see fb hp k with
     | some (.cl f first l)=>bif callB P f then call fb (.f f) (first.map .e ++ args ++ l.map ptS) hp n else none
     | _=>none
    | _=>none
   | _=>none
  | none=>none
 | .makeFunc (.func f) first captured=>match opds rd first.toList,opds rd captured.toList with
  | some fs,some vs=>match elsOf fs,ptrs vs with
   | some els,some l=>bif okEs n els && nmB n (l.map (·.1)) && Nat.blt n top then some ⟨.e (.s (.og n)),hp.set (some (.cl f els l)) n,n+1,[]⟩ else none
   | _,_=>none
  | _,_=>none
 | .makeMap _ none=>bif Nat.blt n top then some ⟨.e (.s (.mp n)),hp.set (some (.mp [] 0)) n,n+1,[]⟩ else none
 | .insert t m k v=>insE P rd fb hp n t m k v
 | .mapUpdate t m k v=>insE P rd fb hp n t m k v
 | _=>none
end
section
variable {P:Program} {S:Sys} {X:Xt S} {w00 W W':World} {fb:List (Nat×Nat)} {ρ:Env} {hp:T (It S)} {n:Nat} {r:Rs S}
theorem flat_rep {α:Type} (a b:Nat) (p:List α):(List.replicate (a+b) p).flatten=(List.replicate a p).flatten ++ (List.replicate b p).flatten:=by
 rw [← List.replicate_append_replicate,List.flatten_append]
theorem made_rep (z:List Value) (hz:0<z.length):∀ c,(madeCells z.toArray (c*z.length)).toList=(List.replicate c z).flatten
 | 0=>by simp [madeCells]
 | c+1=>by
  have ih:=made_rep z hz c
  rw [flat_rep c 1,← ih]
  unfold madeCells
  rw [Array.toList_map,Array.toList_map,Array.toList_range,Array.toList_range,Nat.succ_mul,List.range_add,List.map_append,List.map_map]
  congr 1
  have e:∀ i,i<z.length→z.toArray[(c*z.length+i) % z.toArray.size]! = z[i]!:=fun i hi=>by
   rw [List.size_toArray,Nat.mul_comm,Nat.mul_add_mod,Nat.mod_eq_of_lt hi]
   simp [hi]
  refine (List.map_congr_left (g:=fun i=>z[i]!) fun i hi=>e i (List.mem_range.1 hi)).trans ?_
  simp only [List.replicate_one,List.flatten_singleton]
  apply List.ext_getElem
  ·simp
  ·intro i h1 h2
   simp at h1
   simp [h2]
theorem zeroB_ok {t:TypeId} {zc:List Cell} (h:zeroB P t=some zc) (ρ:Env):∃ i z,P.info? t=some i∧i.zero=some z∧z.cells=(zc.map (Cell.den ρ)).toArray:=by
 unfold zeroB at h
 split at h
 ·rename_i z hz
  obtain ⟨i,hi,hz'⟩:=Option.bind_eq_some_iff.1 hz
  exact ⟨i,z,hi,hz',by rw [absL_den ρ h]⟩
 ·cases h
theorem flat_map {α β:Type} (f:α→β) (c:Nat) (l:List α):(List.replicate c l).flatten.map f=(List.replicate c (l.map f)).flatten:=by
 rw [List.map_flatten,List.map_replicate]
theorem make_ok {t e:TypeId} {i:TypeInfo} {zc:List Cell} {l c:Nat} {kl kc:IntKind} (hu:P.underlying t=some (.slice e)) (hi:P.info? e=some i) (hz:zeroB P e=some zc) (hs:i.size=zc.length) (h0:0<zc.length) (hlc:l≤c) (hb:i.bytes*c≤281474976710656) (h63:c≤9223372036854775807) (w:World) :
  (Instr.makeSlice t (.int kl (.ofNat l)) (.int kc (.ofNat c))).run P w=.ok (.slice (some ⟨w.heap.size,0,none⟩) l c) (w.alloc (.cells ((List.replicate c zc).flatten.map (Cell.den ρ)).toArray e)):=by
 obtain ⟨i',z,h1,h2,h3⟩:=zeroB_ok hz ρ
 rw [hi] at h1
 cases h1
 have hrun:=run_make (P:=P) w t e i z hu hi h2 kl kc (Int.ofNat l) (Int.ofNat c) (Int.natCast_nonneg l) (Int.ofNat_le.2 hlc) (by show (i.bytes:Int)*((c:Nat):Int)≤_;rw [← Int.natCast_mul];omega) (by show ((c:Nat):Int)≤_;omega)
 rw [hrun]
 congr 1
 congr 2
 rw [h3,hs,show zc.length=(zc.map (Cell.den ρ)).length by simp]
 apply Array.ext'
 show (madeCells (zc.map (Cell.den ρ)).toArray (c*(zc.map (Cell.den ρ)).length)).toList=_
 rw [made_rep _ (by simpa using h0),flat_map]
theorem fill_go {pl:Nat→Option (Nat×Nat)} {pl':Nat→Option (Nat×Nat)}:∀ {ps:List (Nat×Value)} {cs:Array Value} {out:Array Value},Instr.fill pl cs ps=some out→(∀ i x,pl i=some x→pl' i=some x)→Instr.fill pl' cs ps=some out
 | [],cs,out,h,_=>h
 | (i,v) :: r,cs,out,h,hp=>by
  simp only [Instr.fill] at h ⊢
  split at h
  ·cases h
  ·rename_i off size hi
   rw [hp i _ hi]
   simp only
   split at h
   ·cases h
   ·rename_i hn
    rw [if_neg hn]
    exact fill_go h hp
theorem build_ok {t e:TypeId} {i:TypeInfo} {zc cs:List Cell} {len:Nat} {ps:List (Nat×El)} {parts:Array (Nat×Value)} (hu:P.underlying t=some (.slice e)) (hi:P.info? e=some i) (hz:zeroB P e=some zc) (hs:i.size=zc.length) (h0:0<zc.length) (hb:len*zc.length≤16777216)
  (hf:fillB (placesZ zc.length len) ps (List.replicate len zc).flatten=some cs) (hp:parts.toList=ps.map fun x=>(x.1,x.2.den ρ)) (w:World) :
  (Instr.buildSlice t len parts).run P w=.ok (.slice (some ⟨w.heap.size,0,none⟩) len len) (w.alloc (.cells (cs.map (Cell.den ρ)).toArray e)):=by
 obtain ⟨i',z,h1,h2,h3⟩:=zeroB_ok hz ρ
 rw [hi] at h1
 cases h1
 have hfill:=fill_ok (ρ:=ρ) hf
 have hfill2:=fill_go (pl':=fun j=>some (j*zc.length,zc.length)) hfill fun j x hx=>by
  unfold placesZ at hx
  rw [List.getElem?_toArray,List.getElem?_map] at hx
  obtain ⟨j',hj,rfl⟩:=Option.map_eq_some_iff.1 hx
  have:=List.getElem?_eq_some_iff.1 hj
  obtain ⟨hlt,he⟩:=this
  rw [List.getElem_range] at he
  rw [he]
 have hn:¬ (len*zc.length > 16777216):=by omega
 have hmade:((Array.range (len*zc.length)).map fun x=>((zc.map (Cell.den ρ)).toArray[x % (zc.map (Cell.den ρ)).toArray.size]!))=((List.replicate len zc).flatten.map (Cell.den ρ)).toArray:=by
  apply Array.ext'
  have:=made_rep (zc.map (Cell.den ρ)) (by simpa using h0) len
  rw [List.length_map] at this
  rw [flat_map]
  exact this
 rw [← hp] at hfill2
 by_cases hl:len*zc.length=0
 ·have hlen:len=0:=by
   rcases Nat.mul_eq_zero.1 hl with h | h
   ·exact h
   ·omega
  subst hlen
  simp only [List.replicate_zero,List.flatten_nil,List.map_nil] at hfill2
  simp [Instr.buildSlice,underlying,program,hu,sizeOf,typeInfo,hi,hs,newRow,newObj,hfill2,Sem.run_bind,Sem.run,Result.andThen,pure,Array.range_zero']
 ·simp only [Instr.buildSlice,underlying,program,hu,sizeOf,typeInfo,hi,hs,zeroValue,h2,h3,Sem.run_bind,Sem.run,Result.andThen,pure,hl,if_false,show ¬ (len*zc.length > 2 ^ 24) from hn]
  rw [show (Array.map (fun x=>(zc.map (Cell.den ρ)).toArray[x % (zc.map (Cell.den ρ)).toArray.size]!) (Array.range (len*zc.length)))=((List.replicate len zc).flatten.map (Cell.den ρ)).toArray from hmade,hfill2]
  simp [newRow,newObj,Sem.run_bind,Sem.run,Result.andThen,pure]
end
end Rx.Ry
namespace Rx.Ry
open Go.RowKit
section
variable {P:Program} {S:Sys} {X:Xt S} {w00 W W':World} {fb:List (Nat×Nat)} {ρ:Env} {hp:T (It S)} {n:Nat} {r:Rs S}
structure NewU (X:Xt S) (hp:T (It S)) (n:Nat) (e:TypeId) (cs:List Cell) (len:Nat) (pat:List Nat):Prop where
 ok:X.okP pat=true
 kd:cs.map kdC=(List.replicate len pat).flatten
 nm:∀ m∈cs.flatMap Cell.nm,m<n
 nt:n<top
theorem newU_in {e:TypeId} {cs:List Cell} {len:Nat} {pat:List Nat} (h:newU X hp n e cs len pat=some r):NewU X hp n e cs len pat∧r=⟨.e (.s (.sl n 0 len 0)),hp.set (some (.blk e cs none pat)) n,n+1,[]⟩:=by
 unfold newU at h
 simp only [okL_eq] at h
 cases hb:(X.okP pat && eqL (cs.map kdC) (List.replicate len pat).flatten && nmB n (cs.flatMap Cell.nm) && Nat.blt n top) with
 | false=>rw [hb] at h;cases h
 | true =>
  rw [hb] at h
  cases h
  simp only [Bool.and_eq_true] at hb
  exact ⟨⟨hb.1.1.1,eqL_eq hb.1.1.2,nmB_ok hb.1.2,Nat.le_of_ble_eq_true hb.2⟩,rfl⟩
theorem growU_in {k:Nat} {e:TypeId} {cs:List Cell} {len:Nat} {pat:List Nat} (h:growU X hp n k e cs len pat=some r):NewU X hp n e cs len pat∧k<n∧r=⟨.e (.s (.sl n 0 len 0)),(hp.set none k).set (some (.blk e cs none pat)) n,n+1,[k]⟩:=by
 unfold growU at h
 simp only [okL_eq] at h
 cases hb:(X.okP pat && eqL (cs.map kdC) (List.replicate len pat).flatten && nmB n (cs.flatMap Cell.nm) && Nat.blt n top && Nat.blt k n) with
 | false=>rw [hb] at h;cases h
 | true =>
  rw [hb] at h
  cases h
  simp only [Bool.and_eq_true] at hb
  exact ⟨⟨hb.1.1.1.1,eqL_eq hb.1.1.1.2,nmB_ok hb.1.1.2,Nat.le_of_ble_eq_true hb.1.2⟩,Nat.le_of_ble_eq_true hb.2,rfl⟩
theorem newU_pl {e:TypeId} {cs:List Cell} {len:Nat} {pat:List Nat} (h:newU X hp n e cs len pat=some r):Pl fb hp n r:=by
 obtain ⟨u,rfl⟩:=newU_in h
 refine ⟨Nat.le_succ _,fun m hm=>?_,fun wf k i hg=>?_,fun k hk _=>?_,fun k hk=>by cases hk⟩
 ·obtain rfl:m=n:=by simpa [SV.nm,El.cells,Cell.nm] using hm
  exact Nat.lt_succ_self _
 ·change (hp.set (some (.blk e cs none pat)) n).get k=some i at hg
  rw [set_get u.nt] at hg
  split at hg
  ·rename_i e
   subst e
   obtain rfl:=Option.some.inj hg
   exact ⟨Nat.lt_succ_self _,fun m hm=>Nat.lt_succ_of_lt (u.nm m hm)⟩
  ·have:=wf k i hg
   exact ⟨Nat.lt_succ_of_lt this.1,fun m hm=>Nat.lt_succ_of_lt (this.2 m hm)⟩
 ·show (hp.set _ n).get k=_
  rw [set_get u.nt,if_neg (by omega)]
theorem growU_pl {k:Nat} {e:TypeId} {cs cs0:List Cell} {len:Nat} {pat pat0:List Nat} {T:TypeId} {e0:Option Nat} (h:growU X hp n k e cs len pat=some r) (hs:see fb hp k=some (.blk T cs0 e0 pat0)):Pl fb hp n r:=by
 obtain ⟨u,hk,rfl⟩:=growU_in h
 have ht:k<top:=Nat.lt_trans hk u.nt
 obtain ⟨h1,h2⟩:=see_some hs
 refine ⟨Nat.le_succ _,fun m hm=>?_,fun wf j i hg=>?_,fun j hj hne=>?_,fun j hj=>?_⟩
 ·obtain rfl:m=n:=by simpa [SV.nm,El.cells,Cell.nm] using hm
  exact Nat.lt_succ_self _
 ·change ((hp.set none k).set (some (.blk e cs none pat)) n).get j=some i at hg
  rw [set_get u.nt] at hg
  split at hg
  ·rename_i e
   subst e
   obtain rfl:=Option.some.inj hg
   exact ⟨Nat.lt_succ_self _,fun m hm=>Nat.lt_succ_of_lt (u.nm m hm)⟩
  ·rw [set_get ht] at hg
   split at hg
   ·cases hg
   ·have:=wf j i hg
    exact ⟨Nat.lt_succ_of_lt this.1,fun m hm=>Nat.lt_succ_of_lt (this.2 m hm)⟩
 ·show ((hp.set none k).set _ n).get j=_
  rw [set_get u.nt,if_neg (by omega),set_get ht,if_neg (by simpa using hne)]
 ·obtain rfl:=List.mem_singleton.1 hj
  exact ⟨hk,h2,_,h1,rfl⟩
theorem growU_dy {k p C:Nat} {e:TypeId} {cs cs0:List Cell} {len:Nat} {pat pat0:List Nat} {T:TypeId} {e0:Option Nat} {rest:List Value} (h:growU X hp n k e cs len pat=some r) (hi:Inv X w00 fb ρ hp W) (wf:Wf hp n) (hs:see fb hp k=some (.blk T cs0 e0 pat0))
  (htop:Below w00.heap.size w00 W') (hfr:Fr S ρ [k] W W') (hb:Bx W' p e (cs.map (Cell.den ρ) ++ rest)) (hk:(cs.map (Cell.den ρ) ++ rest).map kdV=(List.replicate C pat).flatten) (hp':W.heap.size≤p∨p=(ρ k).pos) :
  Dy X w00 fb n r ρ W (.slice (some ⟨p,0,none⟩) len C) (putN ρ n p C) W':=by
 obtain ⟨u,hkn,rfl⟩:=growU_in h
 have ht:k<top:=Nat.lt_trans hkn u.nt
 obtain ⟨h1,h2⟩:=see_some hs
 have hold:∀ j i,j≠n→((hp.set none k).set (some (.blk e cs none pat)) n).get j=some i→j≠k∧hp.get j=some i:=fun j i hj hg=>by
  rw [set_get u.nt,if_neg hj,set_get ht] at hg
  split at hg
  ·cases hg
  ·rename_i hne;exact ⟨hne,hg⟩
 have hk0:IsB (hp.get k):=⟨_,h1,rfl⟩
 have holdB:∀ j,j≠n→IsB (((hp.set none k).set (some (.blk e cs none pat)) n).get j)→j≠k∧IsB (hp.get j):=fun j hj ⟨i,hg,hb⟩=>⟨(hold j i hj hg).1,i,(hold j i hj hg).2,hb⟩
 have hap:∀ j,j≠n→IsB (((hp.set none k).set (some (.blk e cs none pat)) n).get j)→inR fb j=false→(ρ j).pos≠p:=fun j hj hg hf=>by
  obtain ⟨h3,h4⟩:=holdB j hj hg
  rcases hp' with h5 | h5
  ·have:=hi.lt h4 hf;omega
  ·rw [h5];exact hi.inj j k h4 hk0 hf h2 h3
 refine ⟨fun m hm=>putN_ne (fun e=>by subst e;exact hm.elim (Nat.lt_irrefl _) (Nat.not_succ_le_self _)),?_,⟨htop,fun j i hg hf=>?_,fun j hg hf=>?_,fun j j' hg hg' hf hf' hne=>?_⟩,hfr,fun j hj hg=>?_⟩
 ·simp only [SV.den,El.den,Cell.den,(putN_self _ _ _ _).1,(putN_self _ _ _ _).2,Nat.sub_zero]
 ·by_cases ej:j=n
  ·subst ej
   change ((hp.set none k).set (some (.blk e cs none pat)) j).get j=some i at hg
   rw [set_get u.nt,if_pos rfl] at hg
   obtain rfl:=Option.some.inj hg
   have ec:cs.map (Cell.den (putN ρ j p C))=cs.map (Cell.den ρ):=cells_congr fun m hm=>putN_ne (by have:=u.nm m hm;omega)
   refine ⟨rest,?_,?_,?_⟩
   ·rw [(putN_self _ _ _ _).1,ec];exact hb
   ·rw [ec,hk];exact X.rep C u.ok
   ·show _=_
    rw [ec,hk,(putN_self _ _ _ _).2]
  ·obtain ⟨h3,h4⟩:=hold j i ej hg
   have h5:=hi.sat j i h4 hf
   refine Sat.congr (ρ:=ρ) (putN_ne ej) (fun m hm=>putN_ne (by have:=(wf j i h4).2 m hm;omega)) (h5.carry (fun hB=>hfr.blk _ (h5.lt hB) fun j' hj'=>?_) fun f hf'=>hfr.fct _ _ hf')
   obtain rfl:=List.mem_singleton.1 hj'
   exact hi.inj j' j hk0 ⟨i,h4,hB⟩ h2 hf (Ne.symm h3)
 ·by_cases ej:j=n
  ·subst ej
   rw [(putN_self _ _ _ _).1]
   rcases hp' with h5 | h5
   ·exact Nat.le_trans hi.top.size h5
   ·rw [h5];exact hi.lo k hk0 h2
  ·rw [putN_ne ej];exact hi.lo j (holdB j ej hg).2 hf
 ·by_cases ej:j=n
  ·have hj':j'≠n:=fun e'=>hne (ej.trans e'.symm)
   have:=hap j' hj' hg' hf'
   rw [ej,(putN_self _ _ _ _).1,putN_ne hj']
   exact Ne.symm this
  ·by_cases ej':j' = n
   ·have:=hap j ej hg hf
    rw [ej',(putN_self _ _ _ _).1,putN_ne ej]
    exact this
   ·rw [putN_ne ej,putN_ne ej']
    exact hi.inj j j' (holdB j ej hg).2 (holdB j' ej' hg').2 hf hf' hne
 ·by_cases ej:j=n
  ·subst ej
   rw [(putN_self _ _ _ _).1]
   rcases hp' with h5 | h5
   ·exact .inl h5
   ·exact .inr ⟨k,by simp,h5⟩
  ·have:=wf.lt (holdB j ej hg).2;omega
theorem newU_dy {C:Nat} {e:TypeId} {cs:List Cell} {len:Nat} {pat:List Nat} {rest:List Value} (h:newU X hp n e cs len pat=some r) (hi:Inv X w00 fb ρ hp W) (wf:Wf hp n)
  (hB:Below W.heap.size W W') (hb:Bx W' W.heap.size e (cs.map (Cell.den ρ) ++ rest)) (hk:(cs.map (Cell.den ρ) ++ rest).map kdV=(List.replicate C pat).flatten) :
  Dy X w00 fb n r ρ W (.slice (some ⟨W.heap.size,0,none⟩) len C) (putN ρ n W.heap.size C) W':=by
 obtain ⟨u,rfl⟩:=newU_in h
 have ec:cs.map (Cell.den (putN ρ n W.heap.size C))=cs.map (Cell.den ρ):=cells_congr fun m hm=>putN_ne (by have:=u.nm m hm;omega)
 refine newI_dy u.nt hi wf (fun m hm=>putN_ne hm) (fun _=>(putN_self _ _ _ _).1) ?_ hB ⟨rest,?_,?_,?_⟩
 ·simp only [SV.den,El.den,Cell.den,(putN_self _ _ _ _).1,(putN_self _ _ _ _).2,Nat.sub_zero]
 ·rw [(putN_self _ _ _ _).1,ec];exact hb
 ·rw [ec,hk];exact X.rep C u.ok
 ·show _=_
  rw [ec,hk,(putN_self _ _ _ _).2]
theorem cells_ok {k off len z m cc:Nat} {x:SV} {news:List Cell} (h:(match see fb hp k with
  | some (.blk _ cs _ _)=>bif Nat.ble (off+len*z) cs.length then some (len,(cs.drop off).take (len*z)) else none
  | _=>none)=some (m,news)) (hx:x.den ρ=.slice (some ⟨(ρ k).pos,off,none⟩) len cc) (hi:Inv X w00 fb ρ hp W):∃ (b off c:Nat),x.den ρ=.slice (some ⟨b,off,none⟩) m c∧news.length=m*z∧∀ j v,(news.map (Cell.den ρ))[j]? = some v→W.cell? ((⟨b,off,none⟩:Addr).add j)=some v:=by
 split at h
 ·rename_i T cs ex pat hs
  obtain ⟨h1,h2⟩:=see_some hs
  obtain ⟨rest,hb,-,-⟩:=hi.sat k _ h1 h2
  cases hle:Nat.ble (off+len*z) cs.length with
  | false=>rw [hle] at h;cases h
  | true =>
   rw [hle] at h
   cases h
   have hle:=Nat.le_of_ble_eq_true hle
   refine ⟨(ρ k).pos,off,cc,hx,by simp;omega,fun j v hv=>?_⟩
   rw [add_off,hb.cell]
   rw [List.map_take,List.getElem?_take] at hv
   split at hv
   ·rw [List.map_drop,List.getElem?_drop] at hv
    have:=(List.getElem?_eq_some_iff.1 hv).1
    rw [List.getElem?_append_left this]
    exact hv
   ·cases hv
 ·cases h
theorem cellsOf_ok {z m:Nat} {x:SV} {news:List Cell} (h:cellsOf fb hp z x=some (m,news)) (hi:Inv X w00 fb ρ hp W):(m=0∧news=[]∧x.den ρ=.slice none 0 0)∨∃ (b off c:Nat),x.den ρ=.slice (some ⟨b,off,none⟩) m c∧news.length=m*z∧∀ j v,(news.map (Cell.den ρ))[j]? = some v→W.cell? ((⟨b,off,none⟩:Addr).add j)=some v:=by
 unfold cellsOf at h
 split at h
 ·cases h;exact .inl ⟨rfl,rfl,rfl⟩
 ·cases h;exact .inr ⟨_,_,_,rfl,by simp,fun j v hv=>by simp at hv⟩
 ·exact .inr (cells_ok h rfl hi)
 ·exact .inr (cells_ok h rfl hi)
 ·cases h
theorem basC_ok {s:SV} {k off len cap:Nat} (h:basC fb hp s=some (k,off,len,cap)) (hi:Inv X w00 fb ρ hp W):s.den ρ=.slice (some ⟨(ρ k).pos,off,none⟩) len cap:=by
 unfold basC at h
 split at h
 ·cases h;rfl
 ·rename_i k' off' len' d
  split at h
  ·rename_i T cs c pat hs
   obtain ⟨h1,h2⟩:=see_some hs
   obtain ⟨rest,-,-,-,hcc⟩:=hi.sat k' _ h1 h2
   cases h
   simp only [SV.den,El.den,Cell.den,hcc]
  ·cases h
 ·cases h
theorem one_cell (c:Cell):(c.den ρ).oneCell' = true:=by cases c <;> rfl
theorem zero_rest {zc:List Cell} {z:Value} (hz:z.cells=(zc.map (Cell.den ρ)).toArray) (h0:0<zc.length) (k:Nat):(Builtin.zeroCells z.cells k).toList.map kdV=(List.replicate k (zc.map kdC)).flatten:=by
 have:=made_rep (zc.map (Cell.den ρ)) (by simpa using h0) k
 rw [hz,show Builtin.zeroCells (zc.map (Cell.den ρ)).toArray k=madeCells (zc.map (Cell.den ρ)).toArray (k*(zc.map (Cell.den ρ)).length) from rfl,this,flat_map,okK_den]
theorem below_new (W:World) (o:Obj):Below W.heap.size W (W.drew.alloc o):=(below_drew W).alloc (Nat.le_refl _) o
theorem bx_new (W:World) (e:TypeId) (vs:List Value):Bx (W.drew.alloc (.cells vs.toArray e)) W.heap.size e vs:=Bx.new W.drew e vs
theorem bx_new3 (W:World) (e:TypeId) (a b:List Value) (c:Array Value):Bx (W.drew.alloc (.cells (a.toArray ++ b.toArray ++ c) e)) W.heap.size e ((a ++ b) ++ c.toList):=by
 have h:a.toArray ++ b.toArray ++ c=((a ++ b) ++ c.toList).toArray:=by apply Array.ext';simp
 rw [h]
 exact bx_new W e _
theorem setRow_ok {g:Nat} {e:TypeId} {cur vs:List Value} (hg:Bx W g e cur):Bx (W.setRow g vs.toArray) g e vs∧(W.setRow g vs.toArray).heap.size=W.heap.size∧(∀ b,b≠g→(W.setRow g vs.toArray).heap[b]? = W.heap[b]?)∧∀ B w0,Below B w0 W→B≤g→Below B w0 (W.setRow g vs.toArray):=by
 have hsz:(W.setRow g vs.toArray).heap.size=W.heap.size:=by simp [World.setRow]
 have hfar:∀ b,b≠g→(W.setRow g vs.toArray).heap[b]? = W.heap[b]?:=fun b hb=>by
  simp only [World.setRow,Array.getElem?_modify]
  rw [if_neg (by omega)]
 refine ⟨setRow_heap W g _ _ e (0,0) hg,hsz,hfar,fun B w0 h hB=>h.trans ⟨rfl,rfl,rfl,by omega,fun k hk=>hfar k (by omega)⟩⟩
end
end Rx.Ry
end Go.Proofs.YtmijlcldmefggaaGreatDoor
