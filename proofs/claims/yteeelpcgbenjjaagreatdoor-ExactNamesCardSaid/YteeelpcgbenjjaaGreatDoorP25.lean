/- What the proof rests on, part 25. -/
import Derived.Test.YteeelpcgbenjjaaGreatDoorP24
namespace Go.Proofs.YteeelpcgbenjjaaGreatDoor
set_option maxRecDepth 100000
set_option maxHeartbeats 80000000
namespace Rx.Ry
open Go.RowKit
section
variable {P:Program} {S:Sys} {X:Xt S} {w00 W W':World} {fb:List (Nat×Nat)} {ρ:Env} {hp:T (It S)} {n:Nat} {r:Rs S}
structure NewU (X:Xt S) (hp:T (It S)) (n:Nat) (e:TypeId) (cs:List Cell) (len:Nat) (pat:List Nat):Prop where
 ok:X.okP pat=true
 kd:cs.map kdC=(List.replicate len pat).flatten
 nm:∀ m∈cs.flatMap Cell.nm,m<n
 nt:n<top
theorem newU_in {e:TypeId} {cs:List Cell} {len:Nat} {pat:List Nat} (h:newU X hp n e cs len pat=some r):NewU X hp n e cs len pat∧r=⟨.e (.s (.sl n 0 len 0)),hp.set (some (.blk e cs none pat)) n,n+1,[]⟩:=by
 unfold newU at h
 cases hb:(X.okP pat && eqL (cs.map kdC) (List.replicate len pat).flatten && nmB n (cs.flatMap Cell.nm) && Nat.blt n top) with
 | false=>rw [hb] at h;cases h
 | true =>
  rw [hb] at h
  cases h
  simp only [Bool.and_eq_true] at hb
  exact ⟨⟨hb.1.1.1,eqL_eq hb.1.1.2,nmB_ok hb.1.2,Nat.le_of_ble_eq_true hb.2⟩,rfl⟩
theorem growU_in {k:Nat} {e:TypeId} {cs:List Cell} {len:Nat} {pat:List Nat} (h:growU X hp n k e cs len pat=some r):NewU X hp n e cs len pat∧k<n∧r=⟨.e (.s (.sl n 0 len 0)),(hp.set none k).set (some (.blk e cs none pat)) n,n+1,[k]⟩:=by
 unfold growU at h
 cases hb:(X.okP pat && eqL (cs.map kdC) (List.replicate len pat).flatten && nmB n (cs.flatMap Cell.nm) && Nat.blt n top && Nat.blt k n) with
 | false=>rw [hb] at h;cases h
 | true =>
  rw [hb] at h
  cases h
  simp only [Bool.and_eq_true] at hb
  exact ⟨⟨hb.1.1.1.1,eqL_eq hb.1.1.1.2,nmB_ok hb.1.1.2,Nat.le_of_ble_eq_true hb.1.2⟩,Nat.le_of_ble_eq_true hb.2,rfl⟩
theorem newU_pl {e:TypeId} {cs:List Cell} {len:Nat} {pat:List Nat} (h:newU X hp n e cs len pat=some r):Pl fb hp n r:=by
 obtain ⟨u,rfl⟩:=newU_in h
 refine ⟨Nat.le_succ _,fun m hm=>?_,fun wf k i hg=>?_,fun k hk _=>?_,fun k hk=>by cases hk⟩
 ·obtain rfl:m=n:=by simpa [SV.nm,El.cells,Cell.nm] using hm
  exact Nat.lt_succ_self _
 ·change (hp.set (some (.blk e cs none pat)) n).get k=some i at hg
  rw [set_get u.nt] at hg
  split at hg
  ·rename_i e
   subst e
   obtain rfl:=Option.some.inj hg
   exact ⟨Nat.lt_succ_self _,fun m hm=>Nat.lt_succ_of_lt (u.nm m hm)⟩
  ·have:=wf k i hg
   exact ⟨Nat.lt_succ_of_lt this.1,fun m hm=>Nat.lt_succ_of_lt (this.2 m hm)⟩
 ·show (hp.set _ n).get k=_
  rw [set_get u.nt,if_neg (by omega)]
theorem growU_pl {k:Nat} {e:TypeId} {cs cs0:List Cell} {len:Nat} {pat pat0:List Nat} {T:TypeId} {e0:Option Nat} (h:growU X hp n k e cs len pat=some r) (hs:see fb hp k=some (.blk T cs0 e0 pat0)):Pl fb hp n r:=by
 obtain ⟨u,hk,rfl⟩:=growU_in h
 have ht:k<top:=Nat.lt_trans hk u.nt
 obtain ⟨h1,h2⟩:=see_some hs
 refine ⟨Nat.le_succ _,fun m hm=>?_,fun wf j i hg=>?_,fun j hj hne=>?_,fun j hj=>?_⟩
 ·obtain rfl:m=n:=by simpa [SV.nm,El.cells,Cell.nm] using hm
  exact Nat.lt_succ_self _
 ·change ((hp.set none k).set (some (.blk e cs none pat)) n).get j=some i at hg
  rw [set_get u.nt] at hg
  split at hg
  ·rename_i e
   subst e
   obtain rfl:=Option.some.inj hg
   exact ⟨Nat.lt_succ_self _,fun m hm=>Nat.lt_succ_of_lt (u.nm m hm)⟩
  ·rw [set_get ht] at hg
   split at hg
   ·cases hg
   ·have:=wf j i hg
    exact ⟨Nat.lt_succ_of_lt this.1,fun m hm=>Nat.lt_succ_of_lt (this.2 m hm)⟩
 ·show ((hp.set none k).set _ n).get j=_
  rw [set_get u.nt,if_neg (by omega),set_get ht,if_neg (by simpa using hne)]
 ·obtain rfl:=List.mem_singleton.1 hj
  exact ⟨hk,h2,T,cs0,e0,pat0,h1⟩
theorem growU_dy {k p C:Nat} {e:TypeId} {cs cs0:List Cell} {len:Nat} {pat pat0:List Nat} {T:TypeId} {e0:Option Nat} {rest:List Value} (h:growU X hp n k e cs len pat=some r) (hi:Inv X w00 fb ρ hp W) (wf:Wf hp n) (hs:see fb hp k=some (.blk T cs0 e0 pat0))
  (htop:Below w00.heap.size w00 W') (hfr:Fr S ρ [k] W W') (hb:Bx W' p e (cs.map (Cell.den ρ) ++ rest)) (hk:(cs.map (Cell.den ρ) ++ rest).map kdV=(List.replicate C pat).flatten) (hp':W.heap.size≤p∨p=(ρ k).pos) :
  Dy X w00 fb n r ρ W (.slice (some ⟨p,0,none⟩) len C) (putN ρ n p C) W':=by
 obtain ⟨u,hkn,rfl⟩:=growU_in h
 have ht:k<top:=Nat.lt_trans hkn u.nt
 obtain ⟨h1,h2⟩:=see_some hs
 have hold:∀ j i,j≠n→((hp.set none k).set (some (.blk e cs none pat)) n).get j=some i→j≠k∧hp.get j=some i:=fun j i hj hg=>by
  rw [set_get u.nt,if_neg hj,set_get ht] at hg
  split at hg
  ·cases hg
  ·rename_i hne;exact ⟨hne,hg⟩
 have hpos:∀ j T cs e' p',j≠n→((hp.set none k).set (some (.blk e cs none pat)) n).get j=some (.blk T cs e' p')→True:=fun _ _ _ _ _ _ _=>trivial
 have hap:∀ j T' cs' e' p',j≠n→((hp.set none k).set (some (.blk e cs none pat)) n).get j=some (.blk T' cs' e' p')→inR fb j=false→(ρ j).pos≠p:=fun j T' cs' e' p' hj hg hf=>by
  obtain ⟨h3,h4⟩:=hold j _ hj hg
  rcases hp' with h5 | h5
  ·have:=(hi.sat j _ h4 hf).lt;omega
  ·rw [h5];exact hi.inj j k _ _ _ _ _ _ _ _ h4 h1 hf h2 h3
 refine ⟨fun m hm=>putN_ne (fun e=>by subst e;exact hm.elim (Nat.lt_irrefl _) (Nat.not_succ_le_self _)),?_,⟨htop,fun j i hg hf=>?_,fun j T' cs' e' p' hg hf=>?_,fun j j' T1 cs1 e1 p1 T2 cs2 e2 p2 hg hg' hf hf' hne=>?_⟩,hfr,fun j T' cs' e' p' hj hg=>?_⟩
 ·simp only [SV.den,El.den,Cell.den,(putN_self _ _ _ _).1,(putN_self _ _ _ _).2,Nat.sub_zero]
 ·by_cases ej:j=n
  ·subst ej
   change ((hp.set none k).set (some (.blk e cs none pat)) j).get j=some i at hg
   rw [set_get u.nt,if_pos rfl] at hg
   obtain rfl:=Option.some.inj hg
   have ec:cs.map (Cell.den (putN ρ j p C))=cs.map (Cell.den ρ):=cells_congr fun m hm=>putN_ne (by have:=u.nm m hm;omega)
   refine ⟨rest,?_,?_,?_⟩
   ·rw [(putN_self _ _ _ _).1,ec];exact hb
   ·rw [ec,hk];exact X.rep C u.ok
   ·show _=_
    rw [ec,hk,(putN_self _ _ _ _).2]
  ·obtain ⟨h3,h4⟩:=hold j i ej hg
   have h5:=hi.sat j i h4 hf
   refine Sat.congr (ρ:=ρ) (putN_ne ej) (fun m hm=>putN_ne (by have:=(wf j i h4).2 m hm;omega)) ?_
   cases i with
   | blk T' cs' e' p' =>
    exact h5.block (hfr.blk _ h5.lt fun j' hj'=>by
     obtain rfl:=List.mem_singleton.1 hj'
     exact hi.inj j' j _ _ _ _ _ _ _ _ h1 h4 h2 hf (Ne.symm h3))
   | fc l=>exact fun f hf'=>hfr.fct _ _ (h5 f hf')
 ·by_cases ej:j=n
  ·subst ej
   rw [(putN_self _ _ _ _).1]
   rcases hp' with h5 | h5
   ·exact Nat.le_trans hi.top.size h5
   ·rw [h5];exact hi.lo k _ _ _ _ h1 h2
  ·rw [putN_ne ej];exact hi.lo j _ _ _ _ (hold j _ ej hg).2 hf
 ·by_cases ej:j=n
  ·have hj':j'≠n:=fun e'=>hne (ej.trans e'.symm)
   have:=hap j' _ _ _ _ hj' hg' hf'
   rw [ej,(putN_self _ _ _ _).1,putN_ne hj']
   exact Ne.symm this
  ·by_cases ej':j' = n
   ·have:=hap j _ _ _ _ ej hg hf
    rw [ej',(putN_self _ _ _ _).1,putN_ne ej]
    exact this
   ·rw [putN_ne ej,putN_ne ej']
    exact hi.inj j j' _ _ _ _ _ _ _ _ (hold j _ ej hg).2 (hold j' _ ej' hg').2 hf hf' hne
 ·by_cases ej:j=n
  ·subst ej
   rw [(putN_self _ _ _ _).1]
   rcases hp' with h5 | h5
   ·exact .inl h5
   ·exact .inr ⟨k,by simp,h5⟩
  ·have:=(wf j _ (hold j _ ej hg).2).1;omega
theorem newU_dy {C:Nat} {e:TypeId} {cs:List Cell} {len:Nat} {pat:List Nat} {rest:List Value} (h:newU X hp n e cs len pat=some r) (hi:Inv X w00 fb ρ hp W) (wf:Wf hp n)
  (hB:Below W.heap.size W W') (hb:Bx W' W.heap.size e (cs.map (Cell.den ρ) ++ rest)) (hk:(cs.map (Cell.den ρ) ++ rest).map kdV=(List.replicate C pat).flatten) :
  Dy X w00 fb n r ρ W (.slice (some ⟨W.heap.size,0,none⟩) len C) (putN ρ n W.heap.size C) W':=by
 obtain ⟨u,rfl⟩:=newU_in h
 have hag:∀ m,m<n→putN ρ n W.heap.size C m=ρ m:=fun m hm=>putN_ne (by omega)
 have hq:=hi.quiet wf hB hag
 have hold:∀ k i,k≠n→(hp.set (some (.blk e cs none pat)) n).get k=some i→hp.get k=some i:=fun k i hk hg=>by
  rwa [set_get u.nt,if_neg hk] at hg
 have hlt:∀ k T' cs' e' p',k≠n→(hp.set (some (.blk e cs none pat)) n).get k=some (.blk T' cs' e' p')→inR fb k=false→(putN ρ n W.heap.size C k).pos<W.heap.size:=fun k T' cs' e' p' hk hg hf=>by
  rw [putN_ne hk]
  exact (hi.sat k _ (hold k _ hk hg) hf).lt
 refine ⟨fun m hm=>putN_ne (fun e=>by subst e;exact hm.elim (Nat.lt_irrefl _) (Nat.not_succ_le_self _)),?_,⟨hq.top,fun k i hg hf=>?_,fun k T' cs' e' p' hg hf=>?_,fun k k' T1 cs1 e1 p1 T2 cs2 e2 p2 hg hg' hf hf' hne=>?_⟩,fr_below hB,fun k T' cs' e' p' hk hg=>?_⟩
 ·simp only [SV.den,El.den,Cell.den,(putN_self _ _ _ _).1,(putN_self _ _ _ _).2,Nat.sub_zero]
 ·by_cases ek:k=n
  ·subst ek
   change (hp.set (some (.blk e cs none pat)) k).get k=some i at hg
   rw [set_get u.nt,if_pos rfl] at hg
   obtain rfl:=Option.some.inj hg
   have ec:cs.map (Cell.den (putN ρ k W.heap.size C))=cs.map (Cell.den ρ):=cells_congr fun m hm=>putN_ne (by have:=u.nm m hm;omega)
   refine ⟨rest,?_,?_,?_⟩
   ·rw [(putN_self _ _ _ _).1,ec];exact hb
   ·rw [ec,hk];exact X.rep C u.ok
   ·show _=_
    rw [ec,hk,(putN_self _ _ _ _).2]
  ·exact hq.sat k i (hold k i ek hg) hf
 ·by_cases ek:k=n
  ·subst ek
   rw [(putN_self _ _ _ _).1];exact hi.top.size
  ·exact hq.lo k T' cs' e' p' (hold k _ ek hg) hf
 ·by_cases ek:k=n
  ·have h6:=hlt k' _ _ _ _ (fun e'=>hne (ek.trans e'.symm)) hg' hf'
   rw [ek,(putN_self _ _ _ _).1];omega
  ·by_cases ek':k' = n
   ·have h6:=hlt k _ _ _ _ ek hg hf
    rw [ek',(putN_self _ _ _ _).1];omega
   ·exact hq.inj k k' _ _ _ _ _ _ _ _ (hold k _ ek hg) (hold k' _ ek' hg') hf hf' hne
 ·by_cases ek:k=n
  ·subst ek
   rw [(putN_self _ _ _ _).1];exact .inl (Nat.le_refl _)
  ·have:=(wf k _ (hold k _ ek hg)).1;omega
theorem cellsOf_ok {z m:Nat} {x:SV} {news:List Cell} (h:cellsOf fb hp z x=some (m,news)) (hi:Inv X w00 fb ρ hp W):(m=0∧news=[]∧x.den ρ=.slice none 0 0)∨∃ (b off c:Nat),x.den ρ=.slice (some ⟨b,off,none⟩) m c∧news.length=m*z∧∀ j v,(news.map (Cell.den ρ))[j]? = some v→W.cell? ((⟨b,off,none⟩:Addr).add j)=some v:=by
 unfold cellsOf at h
 split at h
 ·cases h;exact .inl ⟨rfl,rfl,rfl⟩
 ·rename_i k off len d
  split at h
  ·rename_i T cs ex pat hs
   obtain ⟨h1,h2⟩:=see_some hs
   obtain ⟨rest,hb,-,-⟩:=hi.sat k _ h1 h2
   cases hle:Nat.ble (off+len*z) cs.length with
   | false=>rw [hle] at h;cases h
   | true =>
    rw [hle] at h
    cases h
    have hle:=Nat.le_of_ble_eq_true hle
    refine .inr ⟨(ρ k).pos,off,(ρ k).c - d,rfl,by simp;omega,fun j v hv=>?_⟩
    rw [add_off,hb.cell]
    rw [List.map_take,List.getElem?_take] at hv
    split at hv
    ·rw [List.map_drop,List.getElem?_drop] at hv
     have:=(List.getElem?_eq_some_iff.1 hv).1
     rw [List.getElem?_append_left this]
     exact hv
    ·cases hv
  ·cases h
 ·cases h
theorem one_cell (c:Cell):(c.den ρ).oneCell' = true:=by cases c <;> rfl
theorem zero_rest {zc:List Cell} {z:Value} (hz:z.cells=(zc.map (Cell.den ρ)).toArray) (h0:0<zc.length) (k:Nat):(Builtin.zeroCells z.cells k).toList.map kdV=(List.replicate k (zc.map kdC)).flatten:=by
 have:=made_rep (zc.map (Cell.den ρ)) (by simpa using h0) k
 rw [hz,show Builtin.zeroCells (zc.map (Cell.den ρ)).toArray k=madeCells (zc.map (Cell.den ρ)).toArray (k*(zc.map (Cell.den ρ)).length) from rfl,this,flat_map,okK_den]
theorem below_new (W:World) (o:Obj):Below W.heap.size W (W.drew.alloc o):=(below_drew W).alloc (Nat.le_refl _) o
theorem bx_new (W:World) (e:TypeId) (vs:List Value):Bx (W.drew.alloc (.cells vs.toArray e)) W.heap.size e vs:=Bx.new W.drew e vs
theorem bx_new3 (W:World) (e:TypeId) (a b:List Value) (c:Array Value):Bx (W.drew.alloc (.cells (a.toArray ++ b.toArray ++ c) e)) W.heap.size e ((a ++ b) ++ c.toList):=by
 have h:a.toArray ++ b.toArray ++ c=((a ++ b) ++ c.toList).toArray:=by apply Array.ext';simp
 rw [h]
 exact bx_new W e _
theorem setRow_ok {g:Nat} {e:TypeId} {cur vs:List Value} (hg:Bx W g e cur):Bx (W.setRow g vs.toArray) g e vs∧(W.setRow g vs.toArray).heap.size=W.heap.size∧(∀ b,b≠g→(W.setRow g vs.toArray).heap[b]? = W.heap[b]?)∧∀ B w0,Below B w0 W→B≤g→Below B w0 (W.setRow g vs.toArray):=by
 have hsz:(W.setRow g vs.toArray).heap.size=W.heap.size:=by simp [World.setRow]
 have hfar:∀ b,b≠g→(W.setRow g vs.toArray).heap[b]? = W.heap[b]?:=fun b hb=>by
  simp only [World.setRow,Array.getElem?_modify]
  rw [if_neg (by omega)]
 refine ⟨setRow_heap W g _ _ e (0,0) hg,hsz,hfar,fun B w0 h hB=>h.trans ⟨rfl,rfl,rfl,by omega,fun k hk=>hfar k (by omega)⟩⟩
end
end Rx.Ry
namespace Rx.Ry
open Go.RowKit
section
variable {P:Program} {S:Sys} {X:Xt S} {w00 W W':World} {fb:List (Nat×Nat)} {ρ:Env} {hp:T (It S)} {n:Nat} {r:Rs S}
theorem rep_drop (a b:Nat) (p:List Nat):((List.replicate (a+b) p).flatten).drop (a*p.length)=(List.replicate b p).flatten:=by
 rw [flat_rep,List.drop_append_of_le_length (by simp),List.drop_eq_nil_of_le (by simp),List.nil_append]
theorem rep_len (a:Nat) (p:List Nat):(List.replicate a p).flatten.length=a*p.length:=by simp
theorem appE_ok {c:Call} {args:List SV} (h:appE P X fb hp n c args=some r) (wf:Wf hp n) (ty:TypeId):Pl fb hp n r∧∀ (ρ:Env) (W:World),Inv X w00 fb ρ hp W →
  ∃ v W' ρ',(Builtin.append_ c.argTypes ty (args.map (SV.den ρ)).toArray).run P W=.ok v W'∧Dy X w00 fb n r ρ W v ρ' W':=by
 unfold appE at h
 split at h
 ·rename_i s x
  split at h
  ·rename_i t t' hty
   split at h
   ·rename_i e0
    subst e0
    have hat:c.argTypes=#[t,t]:=by apply Array.ext';rw [hty]
    split at h
    ·rename_i e hu
     split at h
     ·rename_i i zc hin hz
      split at h
      ·rename_i m news hcx
       cases hb:(Nat.beq i.size zc.length && Nat.blt 0 zc.length && Nat.blt 0 m) with
       | false=>rw [hb] at h;cases h
       | true =>
        rw [hb,cond_true] at h
        simp only [Bool.and_eq_true] at hb
        have hsz:=Nat.eq_of_beq_eq_true hb.1.1
        have h0:0<zc.length:=Nat.le_of_ble_eq_true hb.1.2
        have hm0:0<m:=Nat.le_of_ble_eq_true hb.2
        have hx:∀ (ρ:Env) (W:World),Inv X w00 fb ρ hp W→∃ (a:Addr) (cc:Nat),x.den ρ=.slice (some a) m cc∧(news.map (Cell.den ρ)).length=m*i.size∧∀ j v,(news.map (Cell.den ρ))[j]? = some v→W.cell? (a.add j)=some v:=fun ρ W hi=>by
         rcases cellsOf_ok hcx hi with ⟨h1,-,-⟩ | ⟨b,off,cc,h1,h2,h3⟩
         ·omega
         ·exact ⟨_,cc,h1,by rw [List.length_map,h2,hsz],h3⟩
        have hz':=fun ρ=>zeroB_ok hz ρ
        have hgrown:∀ w need old,need≤grownCap w need old e:=fun w need old=>grownCap_ge w need old e
        split at h
        ·-- nil
         cases hb2:(Nat.ble (m*i.bytes) 140737488355328 && Nat.ble m 9223372036854775807) with
         | false=>rw [hb2] at h;cases h
         | true =>
          rw [hb2,cond_true] at h
          simp only [Bool.and_eq_true] at hb2
          have b1:=Nat.le_of_ble_eq_true hb2.1
          have b2:=Nat.le_of_ble_eq_true hb2.2
          refine ⟨newU_pl h,fun ρ W hi=>?_⟩
          obtain ⟨a,cc,hxv,hl,hn⟩:=hx ρ W hi
          obtain ⟨i',z,hi1,hi2,hi3⟩:=hz' ρ
          rw [hin] at hi1
          cases hi1
          have hrun:=run_append_nil (P:=P) W t ty e i z hu hin hi2 a m cc (news.map (Cell.den ρ)) hl hn hm0 (by omega) (by omega)
          obtain ⟨u,-⟩:=newU_in h
          have hdy:=newU_dy (C:=grownCap W m 0 e) (rest:=(Builtin.zeroCells z.cells (grownCap W m 0 e - m)).toList) (W':=W.drew.alloc (.cells ((news.map (Cell.den ρ)).toArray ++ Builtin.zeroCells z.cells (grownCap W m 0 e - m)) e)) h hi wf (below_new W _) (by
           have:=bx_new W e (news.map (Cell.den ρ) ++ (Builtin.zeroCells z.cells (grownCap W m 0 e - m)).toList)
           rwa [← List.append_toArray,Array.toArray_toList] at this) (by
           rw [List.map_append,okK_den,u.kd,zero_rest hi3 h0,← flat_rep]
           congr 2
           have:=hgrown W m 0
           omega)
          refine ⟨_,_,_,?_,hdy⟩
          rw [hat]
          show (Builtin.append_ #[t,t] ty #[Value.slice none 0 0,x.den ρ]).run P W=_
          rw [hxv]
          exact hrun
        ·rename_i k len
         split at h
         ·rename_i T cs cap pat hs
          obtain ⟨hs1,hs2⟩:=see_some hs
          cases hb2:Nat.ble (len+m) cap with
          | true =>
           rw [hb2,cond_true] at h
           have b1:=Nat.le_of_ble_eq_true hb2
           split at h
           ·rename_i hT
            subst hT
            refine ⟨store_pl h,fun ρ W hi=>?_⟩
            obtain ⟨a,cc,hxv,hl,hn⟩:=hx ρ W hi
            obtain ⟨rest,hbx,-,hrest,hcap⟩:=hi.sat k _ hs1 hs2
            obtain ⟨T',cs',ex',pat',si⟩:=store_in h
            have hsame:=si.see.1.symm.trans hs1
            cases hsame
            have hle:=si.le
            have hrun:=run_append_room (P:=P) W t ty T i hu hin (ρ k).pos len (ρ k).c (cs.map (Cell.den ρ) ++ rest).toArray hbx a m cc (news.map (Cell.den ρ)) hl hn (fun u hu=>by obtain ⟨c,-,rfl⟩:=List.mem_map.1 hu;exact one_cell c) (by omega) (by
             rw [hsz]
             simp only [List.length_map,List.size_toArray,List.length_append]
             omega)
            have hdy:=store_dy' (v:=.slice (some ⟨(ρ k).pos,0,none⟩) (len+m) (ρ k).c) (W':=W.setRow (ρ k).pos ((cs.map (Cell.den ρ) ++ rest).toArray.toList.take (len*i.size) ++ news.map (Cell.den ρ) ++ (cs.map (Cell.den ρ) ++ rest).toArray.toList.drop (len*i.size+(news.map (Cell.den ρ)).length)).toArray) h hi wf (by simp [SV.den,El.den,Cell.den]) fun T2 cs2 rest2 hb2 hle2=>by
             have hsm:=hbx.symm.trans hb2
             simp only [Option.some.injEq,Obj.cells.injEq,and_true] at hsm
             obtain ⟨e1,e2⟩:=hsm
             have e1:=congrArg Array.toList e1
             simp only at e1
             obtain ⟨q1,q2,q3,q4⟩:=setRow_ok (vs:=(cs.map (Cell.den ρ) ++ rest).toArray.toList.take (len*i.size) ++ news.map (Cell.den ρ) ++ (cs.map (Cell.den ρ) ++ rest).toArray.toList.drop (len*i.size+(news.map (Cell.den ρ)).length)) hbx
             refine ⟨?_,q2,q3,q4⟩
             rw [e2] at q1
             rw [show (cs.map (Cell.den ρ) ++ rest).toArray.toList=cs2.map (Cell.den ρ) ++ rest2 from e1,hsz] at q1
             rw [show (cs.map (Cell.den ρ) ++ rest).toArray.toList=cs2.map (Cell.den ρ) ++ rest2 from e1,hsz]
             rw [splice_rest ρ hle2] at q1 ⊢
             exact q1
            refine ⟨_,_,_,?_,hdy⟩
            rw [hat]
            show (Builtin.append_ #[t,t] ty #[Value.slice (some ⟨(ρ k).pos,0,none⟩) len ((ρ k).c - 0),x.den ρ]).run P W=_
            rw [hxv]
            exact hrun
           ·cases h
          | false =>
           rw [hb2,cond_false] at h
           cases hb3:(Nat.ble (len*zc.length) cs.length && Nat.ble ((len+m)*i.bytes) 140737488355328 && Nat.ble (len+m) 9223372036854775807) with
           | false=>rw [hb3] at h;cases h
           | true =>
            rw [hb3,cond_true] at h
            simp only [Bool.and_eq_true] at hb3
            have c1:=Nat.le_of_ble_eq_true hb3.1.1
            have c2:=Nat.le_of_ble_eq_true hb3.1.2
            have c3:=Nat.le_of_ble_eq_true hb3.2
            have c4:cap<len+m:=by
             rcases Nat.lt_or_ge cap (len+m) with h | h
             ·exact h
             ·rw [Nat.ble_eq_true_of_le h] at hb2;cases hb2
            refine ⟨newU_pl h,fun ρ W hi=>?_⟩
            obtain ⟨a,cc,hxv,hl,hn⟩:=hx ρ W hi
            obtain ⟨i',z,hi1,hi2,hi3⟩:=hz' ρ
            rw [hin] at hi1
            cases hi1
            obtain ⟨rest,hbx,-,hrest,hcap⟩:=hi.sat k _ hs1 hs2
            have hrun:=run_append_grow (P:=P) W t ty e i z hu hin hi2 ⟨(ρ k).pos,0,none⟩ len (ρ k).c ((cs.take (len*zc.length)).map (Cell.den ρ)) (by rw [hsz];simp;omega) (fun j v hv=>by
             rw [add_off,hbx.cell,Nat.zero_add]
             rw [List.map_take,List.getElem?_take] at hv
             split at hv
             ·have:=(List.getElem?_eq_some_iff.1 hv).1
              rw [List.getElem?_append_left this];exact hv
             ·cases hv) a m cc (news.map (Cell.den ρ)) hl hn (by omega) (by omega) (growslice_fits (by omega) c2)
            obtain ⟨u,-⟩:=newU_in h
            have hdy:=newU_dy (C:=grownCap W (len+m) (ρ k).c e) (rest:=(Builtin.zeroCells z.cells (grownCap W (len+m) (ρ k).c e - (len+m))).toList) (W':=W.drew.alloc (.cells (((cs.take (len*zc.length)).map (Cell.den ρ)).toArray ++ (news.map (Cell.den ρ)).toArray ++ Builtin.zeroCells z.cells (grownCap W (len+m) (ρ k).c e - (len+m))) e)) h hi wf (below_new W _) (by
             rw [List.map_append]
             exact bx_new3 W e _ _ _) (by
             rw [List.map_append,okK_den,u.kd,zero_rest hi3 h0,← flat_rep]
             congr 2
             have:=hgrown W (len+m) (ρ k).c
             omega)
            refine ⟨_,_,_,?_,hdy⟩
            rw [hat]
            show (Builtin.append_ #[t,t] ty #[Value.slice (some ⟨(ρ k).pos,0,none⟩) len ((ρ k).c - 0),x.den ρ]).run P W=_
            rw [hxv]
            exact hrun
         ·rename_i T cs pat hs
          obtain ⟨hs1,hs2⟩:=see_some hs
          cases hb3:(Nat.beq (len*zc.length) cs.length && Nat.ble ((len+m)*i.bytes) 140737488355328 && Nat.ble (len+m) 9223372036854775807 && decide (T=e) && eqL pat (zc.map kdC)) with
          | false=>rw [hb3] at h;cases h
          | true =>
           rw [hb3,cond_true] at h
           simp only [Bool.and_eq_true,decide_eq_true_eq] at hb3
           have c1:=Nat.eq_of_beq_eq_true hb3.1.1.1.1
           have c2:=Nat.le_of_ble_eq_true hb3.1.1.1.2
           have c3:=Nat.le_of_ble_eq_true hb3.1.1.2
           obtain rfl:=hb3.1.2
           have c5:=eqL_eq hb3.2
           refine ⟨growU_pl h hs,fun ρ W hi=>?_⟩
           obtain ⟨a,cc,hxv,hl,hn⟩:=hx ρ W hi
           obtain ⟨i',z,hi1,hi2,hi3⟩:=hz' ρ
           rw [hin] at hi1
           cases hi1
           obtain ⟨rest,hbx,hokk,hkk⟩:=hi.sat k _ hs1 hs2
           have hkk:(cs.map (Cell.den ρ) ++ rest).map kdV=(List.replicate (ρ k).c pat).flatten:=hkk
           obtain ⟨u,hkn,-⟩:=growU_in h
           have hplen:pat.length=zc.length:=by rw [c5];simp
           have hlenk:=congrArg List.length hkk
           rw [rep_len,List.length_map,List.length_append,List.length_map,hplen,← c1] at hlenk
           have hlC:len≤(ρ k).c:=Nat.le_of_mul_le_mul_right (show len*zc.length≤(ρ k).c*zc.length by omega) h0
           have hu2:=u.kd
           rw [List.map_append,flat_rep] at hu2
           have hkc:cs.map kdC=(List.replicate len pat).flatten∧news.map kdC=(List.replicate m pat).flatten:=List.append_inj hu2 (by rw [rep_len,List.length_map,hplen,c1])
           have hrest:rest.map kdV=(List.replicate ((ρ k).c - len) pat).flatten:=by
            rw [List.map_append,okK_den,hkc.1,show (ρ k).c=len+((ρ k).c - len) by omega,flat_rep] at hkk
            exact List.append_cancel_left hkk
           rcases Nat.lt_or_ge (ρ k).c (len+m) with hg | hg
           ·have hrun:=run_append_grow (P:=P) W t ty T i z hu hin hi2 ⟨(ρ k).pos,0,none⟩ len (ρ k).c (cs.map (Cell.den ρ)) (by rw [hsz,List.length_map,c1]) (fun j v hv=>by
             rw [add_off,hbx.cell,Nat.zero_add]
             have:=(List.getElem?_eq_some_iff.1 hv).1
             rw [List.getElem?_append_left this];exact hv) a m cc (news.map (Cell.den ρ)) hl hn hg (by omega) (growslice_fits (by omega) c2)
            have hdy:=growU_dy (C:=grownCap W (len+m) (ρ k).c T) (p:=W.heap.size) (rest:=(Builtin.zeroCells z.cells (grownCap W (len+m) (ρ k).c T - (len+m))).toList) (W':=W.drew.alloc (.cells ((cs.map (Cell.den ρ)).toArray ++ (news.map (Cell.den ρ)).toArray ++ Builtin.zeroCells z.cells (grownCap W (len+m) (ρ k).c T - (len+m))) T)) h hi wf hs (hi.top.trans ((below_new W _).mono hi.top.size)) (by
              have:=fr_below (S:=S) (ρ:=ρ) (below_new W (.cells ((cs.map (Cell.den ρ)).toArray ++ (news.map (Cell.den ρ)).toArray ++ Builtin.zeroCells z.cells (grownCap W (len+m) (ρ k).c T - (len+m))) T))
              exact ⟨this.sz,fun b hb _=>this.blk b hb (by simp),this.fct⟩) (by
              rw [List.map_append]
              exact bx_new3 W T _ _ _) (by
              rw [List.map_append,okK_den,u.kd,zero_rest hi3 h0,← c5,← flat_rep]
              congr 2
              have:=grownCap_ge W (len+m) (ρ k).c T
              omega) (.inl (Nat.le_refl _))
            refine ⟨_,_,_,?_,hdy⟩
            rw [hat]
            show (Builtin.append_ #[t,t] ty #[Value.slice (some ⟨(ρ k).pos,0,none⟩) len ((ρ k).c - 0),x.den ρ]).run P W=_
            rw [hxv]
            exact hrun
           ·have hnl:(news.map (Cell.den ρ)).length=m*zc.length:=by rw [hl,hsz]
            have hrun:=run_append_room (P:=P) W t ty T i hu hin (ρ k).pos len (ρ k).c (cs.map (Cell.den ρ) ++ rest).toArray hbx a m cc (news.map (Cell.den ρ)) hl hn (fun u hu=>by obtain ⟨c,-,rfl⟩:=List.mem_map.1 hu;exact one_cell c) hg (by
             have h7:(len+m)*zc.length≤(ρ k).c*zc.length:=Nat.mul_le_mul_right _ hg
             rw [Nat.add_mul] at h7
             rw [hsz,hnl]
             simp only [List.size_toArray,List.length_append,List.length_map]
             omega)
            have htk:(cs.map (Cell.den ρ) ++ rest).toArray.toList.take (len*i.size)=cs.map (Cell.den ρ):=by
             show (cs.map (Cell.den ρ) ++ rest).take (len*i.size)=_
             rw [hsz,c1,List.take_append_of_le_length (by simp)]
             exact List.take_of_length_le (by simp)
            have hdr:(cs.map (Cell.den ρ) ++ rest).toArray.toList.drop (len*i.size+(news.map (Cell.den ρ)).length)=rest.drop (m*zc.length):=by
             show (cs.map (Cell.den ρ) ++ rest).drop (len*i.size+(news.map (Cell.den ρ)).length)=_
             rw [hsz,c1,hnl,← List.drop_drop]
             congr 1
             rw [List.drop_append_of_le_length (by simp),List.drop_of_length_le (by simp),List.nil_append]
            obtain ⟨q1,q2,q3,q4⟩:=setRow_ok (vs:=(cs ++ news).map (Cell.den ρ) ++ rest.drop (m*zc.length)) hbx
            rw [htk,hdr,← List.map_append] at hrun
            have hdy:=growU_dy (C:=(ρ k).c) (p:=(ρ k).pos) (rest:=rest.drop (m*zc.length)) (W':=W.setRow (ρ k).pos ((cs ++ news).map (Cell.den ρ) ++ rest.drop (m*zc.length)).toArray) h hi wf hs (q4 _ _ hi.top (hi.lo k _ _ _ _ hs1 hs2)) ⟨Nat.le_of_eq q2.symm,fun b hb hne=>q3 b fun e=>hne k (by simp) e.symm,fun ρ' f hf=>X.chg hf (Nat.le_of_eq q2.symm) fun b hb=>by
              by_cases e:b=(ρ k).pos
              ·exact .inr ⟨T,_,by rw [e];exact hbx,hokk⟩
              ·exact .inl (q3 b e)⟩ q1 (by
              rw [List.map_append,okK_den,u.kd,List.map_drop,hrest,show (ρ k).c - len=m+((ρ k).c - len - m) by omega,← hplen,rep_drop,← flat_rep]
              congr 2
              omega) (.inr rfl)
            refine ⟨_,_,_,?_,hdy⟩
            rw [hat]
            show (Builtin.append_ #[t,t] ty #[Value.slice (some ⟨(ρ k).pos,0,none⟩) len ((ρ k).c - 0),x.den ρ]).run P W=_
            rw [hxv]
            exact hrun
         ·cases h
        ·cases h
      ·cases h
     ·cases h
    ·cases h
   ·cases h
  ·cases h
 ·cases h
end
end Rx.Ry
namespace Rx.Ry
open Go.RowKit
section
variable {P:Program} {S:Sys} {X:Xt S} {w00 W W':World} {fb:List (Nat×Nat)} {ρ:Env} {hp:T (It S)} {n:Nat} {r:Rs S}
theorem run_copyY {ats:Array TypeId} {t ty e:TypeId} {z b off dl dc m k:Nat} {src:Value} {news vs:List Value} {T:TypeId} {w:World} (ha:ats[0]? = some t) (hu:P.underlying t=some (.slice e)) (hz:sizeB P e=some z) (hk:k=Nat.min m dl)
  (hs:(Builtin.lenOf src).run P w=.ok m w) (hf:(Builtin.firstCells z k src).run P w=.ok news.toArray w) (hb:Bx w b T vs) (hl:off+news.length≤vs.length) (hfl:∀ v∈news,flat v=true) :
  (Builtin.copy_ ats ty #[.slice (some ⟨b,off,none⟩) dl dc,src]).run P w=.ok (.int .i64 (.ofNat k)) (setMany w b off news):=by
 subst hk
 have h1:=run_sizeOf (P:=P) (w:=w) hz
 have h2:=run_storeCells (P:=P) news off 0 hb (by omega) hfl
 rw [Nat.add_zero] at h2
 simp [Builtin.copy_,ha,underlying,program,hu,Sem.run_bind,Sem.run,Result.andThen,pure,hs,h1,hf,h2,goInt]
theorem copyE_ok {c:Call} {args:List SV} (h:copyE P fb hp n c args=some r) (wf:Wf hp n) (ty:TypeId):Pl fb hp n r∧∀ (ρ:Env) (W:World),Inv X w00 fb ρ hp W →
  ∃ v W' ρ',(Builtin.copy_ c.argTypes ty (args.map (SV.den ρ)).toArray).run P W=.ok v W'∧Dy X w00 fb n r ρ W v ρ' W':=by
 unfold copyE at h
 split at h
 ·rename_i k off len d x
  split at h
  ·rename_i t tr hty
   split at h
   ·rename_i z hz
    obtain ⟨e,hu,hsz⟩:=elemZ_ok hz
    split at h
    ·rename_i m news hcx
     refine ⟨store_pl h,fun ρ W hi=>?_⟩
     obtain ⟨T,cs,ex,pat,si⟩:=store_in h
     obtain ⟨rest,hbx,-⟩:=hi.sat k _ si.see.1 si.see.2
     have hle:=si.le
     have h0:c.argTypes[0]? = some t:=by rw [← Array.getElem?_toList,hty];rfl
     have hfl:∀ v∈((news.take (Nat.min m len*z)).map (Cell.den ρ)),flat v=true:=fun v hv=>by
      obtain ⟨c,-,rfl⟩:=List.mem_map.1 hv
      exact c.flat ρ
     have hfit:off+((news.take (Nat.min m len*z)).map (Cell.den ρ)).length≤(cs.map (Cell.den ρ) ++ rest).length:=by
      simp only [List.length_map,List.length_append] at hle ⊢
      omega
     rcases cellsOf_ok hcx hi with ⟨h1,h2,h3⟩ | ⟨b,o,cc,h1,h2,h3⟩
     ·subst h1 h2
      have hrun:=run_copyY (P:=P) (ty:=ty) (dc:=(ρ k).c - d) (m:=0) (dl:=len) (src:=.slice none 0 0) (news:=((List.take (Nat.min 0 len*z) ([]:List Cell)).map (Cell.den ρ))) (w:=W) h0 hu hsz (k:=Nat.min 0 len) rfl rfl (by simp [Builtin.firstCells,pure]) hbx hfit hfl
      refine ⟨_,_,_,?_,store_dy (v:=.int .i64 (.ofNat (Nat.min 0 len))) h hi wf rfl rfl⟩
      show (Builtin.copy_ c.argTypes ty #[Value.slice (some ⟨(ρ k).pos,off,none⟩) len ((ρ k).c - d),x.den ρ]).run P W=_
      rw [h3]
      exact hrun
     ·have hmin:Nat.min m len*z≤m*z:=Nat.mul_le_mul_right _ (Nat.min_le_left _ _)
      have hfc:=run_firstCells_some (P:=P) W z (Nat.min m len) ⟨b,o,none⟩ m cc ((news.take (Nat.min m len*z)).map (Cell.den ρ)) (by rw [List.length_map,List.length_take];omega) (fun j v hv=>by
       rw [List.map_take,List.getElem?_take] at hv
       split at hv
       ·exact h3 j v hv
       ·cases hv)
      have hrun:=run_copyY (P:=P) (ty:=ty) (dc:=(ρ k).c - d) (m:=m) (dl:=len) (src:=.slice (some ⟨b,o,none⟩) m cc) (w:=W) h0 hu hsz (k:=Nat.min m len) rfl rfl hfc hbx hfit hfl
      refine ⟨_,_,_,?_,store_dy (v:=.int .i64 (.ofNat (Nat.min m len))) h hi wf rfl rfl⟩
      show (Builtin.copy_ c.argTypes ty #[Value.slice (some ⟨(ρ k).pos,off,none⟩) len ((ρ k).c - d),x.den ρ]).run P W=_
      rw [h1]
      exact hrun
    ·cases h
   ·cases h
  ·cases h
 ·cases h
theorem run_appendC {c:Call} {ty:TypeId} {a:Act} {v:Value} {w w':World} (hc:c.callee=.builtin .append) (h:(Builtin.append_ c.argTypes ty (c.args.map a.eval)).run P w=.ok v w'):(do let d ← resolve a.eval c ty;invoke d.target d.args:Sem Next).run P w=.ok (.value v) w':=by
 simp only [resolve,hc,invoke,builtin,Sem.run_bind,Sem.run,Result.andThen,pure,h]
theorem run_copyC {c:Call} {ty:TypeId} {a:Act} {v:Value} {w w':World} (hc:c.callee=.builtin .copy) (h:(Builtin.copy_ c.argTypes ty (c.args.map a.eval)).run P w=.ok v w'):(do let d ← resolve a.eval c ty;invoke d.target d.args:Sem Next).run P w=.ok (.value v) w':=by
 simp only [resolve,hc,invoke,builtin,Sem.run_bind,Sem.run,Result.andThen,pure,h]
theorem run_closure {c:Call} {t:Tmp} {f:FuncId} {ty:TypeId} {a:Act} {cap:Array Value} {w:World} (hc:c.callee=.value (.tmp t)) (hb:callB P f=true) (hv:a.eval (.tmp t)=.func (.func f) #[] cap) :
  (do let d ← resolve a.eval c ty;invoke d.target d.args:Sem Next).run P w=.ok (.enter f (c.args.map a.eval ++ cap)) w:=by
 unfold callB at hb
 split at hb
 ·rename_i fn hfn
  simp only [Bool.and_eq_true,Bool.not_eq_true',Option.isSome_iff_ne_none] at hb
  obtain ⟨h1,h2⟩:=hb
  have h3:¬ fn.name = "runtime.NumGoroutine":=by simpa using h2
  simp [resolve,hc,hv,Deferred.ofValue,invoke,callFunc,program,hfn,h1,h3,Sem.run_bind,Sem.run,Result.andThen,pure]
 ·cases hb
theorem specE_ok {call:CallT S} (hcall:CallOk P X w00 call) {rd:Tmp→Option SV} {o:Oper} (h:specE P X call rd fb hp n o.op=some r) (wf:Wf hp n) :
  Pl fb hp n r∧∀ (ρ:Env) (W:World) (a:Act),Inv X w00 fb ρ hp W→(∀ t v,rd t=some v→a.tmps.getD t undef=v.den ρ)→takes P o a W fun v W'=>∃ ρ',Dy X w00 fb n r ρ W v ρ' W':=by
 unfold takes execOp
 unfold specE at h
 split at h
 all_goals first | (cases h;done) | (rename_i hop;rw [hop])
 ·-- makeSlice
  split at h
  ·rename_i kl l kc c e hl hc hu
   split at h
   ·rename_i i zc hi hz
    cases hb:(Nat.beq i.size zc.length && Nat.blt 0 zc.length && Nat.ble l c && Nat.ble (i.bytes*c) 281474976710656 && Nat.ble c 9223372036854775807) with
    | false=>rw [hb] at h;cases h
    | true =>
     rw [hb,cond_true] at h
     simp only [Bool.and_eq_true] at hb
     obtain ⟨⟨⟨⟨b1,b2⟩,b3⟩,b4⟩,b5⟩:=hb
     refine ⟨new_pl h,fun ρ W a hinv hr=>?_⟩
     simp only [opd_ok hl hr,opd_ok hc hr,SV.den,El.den,Cell.den]
     refine takes_value (make_ok (ρ:=ρ) hu hi hz (Nat.eq_of_beq_eq_true b1) (Nat.le_of_ble_eq_true b2) (Nat.le_of_ble_eq_true b3) (Nat.le_of_ble_eq_true b4) (Nat.le_of_ble_eq_true b5) W) ⟨_,new_dy h hinv wf ?_ ((Below.refl _ _).alloc (Nat.le_refl _) _) (Bx.new W e _)⟩
     simp only [SV.den,El.den,Cell.den,(putN_self _ _ _ _).1,(putN_self _ _ _ _).2,Nat.sub_zero]
   ·cases h
  ·cases h
 ·-- buildSlice
  rename_i t len parts
  split at h
  ·rename_i e ps hu hps
   split at h
   ·rename_i i zc hi hz
    cases hb:(Nat.beq i.size zc.length && Nat.blt 0 zc.length && Nat.ble (len*zc.length) 16777216) with
    | false=>rw [hb] at h;cases h
    | true =>
     rw [hb,cond_true] at h
     simp only [Bool.and_eq_true] at hb
     obtain ⟨⟨b1,b2⟩,b3⟩:=hb
     split at h
     ·rename_i cs hf
      refine ⟨new_pl h,fun ρ W a hinv hr=>?_⟩
      have hp':(parts.map fun (x:Nat×Operand)=>(x.1,a.eval x.2)).toList=ps.map fun x=>(x.1,x.2.den ρ):=by rw [Array.toList_map];exact parts_ok hr hps
      refine takes_value (build_ok (ρ:=ρ) hu hi hz (Nat.eq_of_beq_eq_true b1) (Nat.le_of_ble_eq_true b2) (Nat.le_of_ble_eq_true b3) hf hp' W) ⟨_,new_dy h hinv wf ?_ ((Below.refl _ _).alloc (Nat.le_refl _) _) (Bx.new W e _)⟩
      simp only [SV.den,El.den,Cell.den,(putN_self _ _ _ _).1,(putN_self _ _ _ _).2,Nat.sub_zero]
     ·cases h
   ·cases h
  ·cases h
 ·-- call
  rename_i c
  split at h
  ·rename_i args ha
   have hargs:∀ (ρ:Env) (a:Act),(∀ t v,rd t=some v→a.tmps.getD t undef=v.den ρ)→c.args.map a.eval=(args.map (SV.den ρ)).toArray:=fun ρ a hr=>by
    apply Array.ext'
    rw [Array.toList_map,opds_ok hr ha]
   split at h
   ·rename_i hc
    obtain ⟨pl,go⟩:=appE_ok (P:=P) (X:=X) (w00:=w00) h wf o.type
    refine ⟨pl,fun ρ W a hinv hr=>?_⟩
    obtain ⟨v,W',ρ',hrun,dy⟩:=go ρ W hinv
    simp only
    rw [run_appendC hc (by rw [hargs ρ a hr];exact hrun)]
    exact ⟨ρ',dy⟩
   ·rename_i hc
    obtain ⟨pl,go⟩:=copyE_ok (P:=P) (X:=X) (w00:=w00) h wf o.type
    refine ⟨pl,fun ρ W a hinv hr=>?_⟩
    obtain ⟨v,W',ρ',hrun,dy⟩:=go ρ W hinv
    simp only
    rw [run_copyC hc (by rw [hargs ρ a hr];exact hrun)]
    exact ⟨ρ',dy⟩
   ·rename_i f hc
    cases hb:callB P f with
    | false=>rw [hb] at h;cases h
    | true =>
     rw [hb,cond_true] at h
     obtain ⟨pl,go⟩:=hcall _ _ _ _ _ _ h wf
     refine ⟨pl,fun ρ W a hinv hr=>?_⟩
     simp only
     rw [run_call hc hb (hargs ρ a hr)]
     exact (go ρ W hinv).mono fun e W' ⟨v,ρ',he,dy⟩=>⟨v,he,ρ',dy⟩
   ·rename_i t hc
    split at h
    ·rename_i f l hv
     cases hb:callB P f with
     | false=>rw [hb] at h;cases h
     | true =>
      rw [hb,cond_true] at h
      obtain ⟨pl,go⟩:=hcall _ _ _ _ _ _ h wf
      refine ⟨pl,fun ρ W a hinv hr=>?_⟩
      simp only
      have hv':a.eval (.tmp t)=.func (.func f) #[] (l.map fun x:Nat×Nat=>Value.pointer (some ⟨(ρ x.1).pos,x.2,none⟩)).toArray:=hr t _ hv
      rw [run_closure hc hb hv',hargs ρ a hr]
      have:=go ρ W hinv
      rw [List.map_append,List.map_map] at this
      rw [List.append_toArray]
      exact this.mono fun e W' ⟨v,ρ',he,dy⟩=>⟨v,he,ρ',dy⟩
    ·cases h
   ·cases h
  ·cases h
end
section
variable (P:Program) {S:Sys} (X:Xt S) (H:Tests S) (cons:List (Con S))
def rxE (rd:Tmp→Option SV) (fb:List (Nat×Nat)) (hp:T (It S)) (n:Nat) (op:Op):Option (Rs S):=conv X fb hp n (Rx.evalOp P H cons rd (ctOf fb hp) (factsOf fb hp (ded (opNm rd op.operands.toList))) n op)
def pureE (rd:Tmp→Option SV) (fb:List (Nat×Nat)) (hp:T (It S)) (n:Nat) (op:Op):Option (Rs S):=match specP P rd fb hp op with
 | some v=>pureR hp n v
 | none=>none
def isCall:Op→Bool
 | .call _=>true
 | _=>false
def stE (rd:Tmp→Option SV) (fb:List (Nat×Nat)) (hp:T (It S)) (n:Nat):Op→Option (Rs S)
 | .store t a x=>match opd rd a,opd rd x,sizeB P t with
  | some (.e (.s (.ptr k off))),some (.e x),some z=>bif Nat.beq x.cells.length z then storeR fb hp n k off x.cells .und else none
  | _,_,_=>none
 | _=>none
def isStore:Op→Bool
 | .store ..=>true
 | _=>false
def evalOp (call:CallT S) (rd:Tmp→Option SV) (fb:List (Nat×Nat)) (hp:T (It S)) (n:Nat) (op:Op):Option (Rs S):=
 bif isCall op then (match rxE P X H cons rd fb hp n op with
  | some r=>some r
  | none=>match specE P X call rd fb hp n op with
   | some r=>some r
   | none=>pureE P rd fb hp n op)
 else bif isStore op then (match stE P rd fb hp n op with
  | some r=>some r
  | none=>rxE P X H cons rd fb hp n op)
 else match pureE P rd fb hp n op with
  | some r=>some r
  | none=>match rxE P X H cons rd fb hp n op with
   | some r=>some r
   | none=>specE P X call rd fb hp n op
def callN (fuel:Nat):Nat→CallT S
 | 0=>fun _ _ _ _ _=>none
 | d+1=>fun fb f args hp n=>runY P (evalOp P X H cons (callN fuel d)) fb fuel f args hp n
end
section
variable {P:Program} {S:Sys} {X:Xt S} {H:Tests S} {cons:List (Con S)} {w00:World} {E:World→Prop}
theorem stE_ok {fb:List (Nat×Nat)} {hp:T (It S)} {n:Nat} {r:Rs S} {rd:Tmp→Option SV} {o:Oper} (h:stE P rd fb hp n o.op=some r) (wf:Wf hp n) :
  Pl fb hp n r∧∀ (ρ:Env) (W:World) (a:Act),Inv X w00 fb ρ hp W→(∀ t v,rd t=some v→a.tmps.getD t undef=v.den ρ)→takes P o a W fun v W'=>∃ ρ',Dy X w00 fb n r ρ W v ρ' W':=by
 unfold takes execOp
 unfold stE at h
 split at h
 ·rename_i hop
  rw [hop]
  split at h
  ·rename_i k off x z hv hx hz
   cases hb:Nat.beq x.cells.length z with
   | false=>rw [hb] at h;cases h
   | true =>
    rw [hb,cond_true] at h
    refine ⟨store_pl h,fun ρ W a hi hr=>?_⟩
    obtain ⟨T,cs,ex,pat,s⟩:=store_in h
    obtain ⟨rest,h1,-,-⟩:=hi.sat k _ s.see.1 s.see.2
    have hd:=opd_ok hv hr
    have hdx:=opd_ok hx hr
    simp only [hd,hdx]
    rw [show ((do Instr.storeAt _ (SV.den ρ (.e (.s (.ptr k off)))) (SV.den ρ (.e x));pure .skip:Sem Next).run P W)=.ok .skip (setMany W (ρ k).pos off (x.cells.map (Cell.den ρ))) by
     simp only [Sem.run_bind]
     rw [show SV.den ρ (.e (.s (.ptr k off)))=.pointer (some ⟨(ρ k).pos,off,none⟩) from rfl,show SV.den ρ (.e x)=El.den ρ x from rfl,
      run_store (x.den_cells ρ) (by rw [List.length_map,Nat.eq_of_beq_eq_true hb];exact hz) h1 (by have:=s.le;simp;omega) (fun v hv'=>by obtain ⟨c,-,rfl⟩:=List.mem_map.1 hv';exact c.flat ρ)]
     rfl]
    exact ⟨ρ,store_dy h hi wf rfl rfl⟩
  ·cases h
 ·cases h
theorem evalOp_ev (hc:∀ c∈cons,c.Ok P S E) (hE:∀ W,Below w00.heap.size w00 W→E W) {call:CallT S} (hcall:CallOk P X w00 call):EvOk P X w00 (evalOp P X H cons call):=by
 intro rd fb hp n o r h wf
 have k1:∀ r,rxE P X H cons rd fb hp n o.op=some r→Pl fb hp n r∧∀ (ρ:Env) (W:World) (a:Act),Inv X w00 fb ρ hp W→(∀ t v,rd t=some v→a.tmps.getD t undef=v.den ρ)→(∀ t v,rd t=some v→∀ m∈v.nm,m<n) →
   takes P o a W fun v W'=>∃ ρ',Dy X w00 fb n r ρ W v ρ' W':=fun r h=>by
  unfold rxE at h
  refine ⟨conv_pl h wf,fun ρ W a hi hr hn=>?_⟩
  cases hrc:Rx.evalOp P H cons rd (ctOf fb hp) (factsOf fb hp (ded (opNm rd o.op.operands.toList))) n o.op with
  | none=>rw [hrc] at h;simp [conv] at h
  | some rc =>
   rw [hrc] at h
   have ht:=Rx.evalOp_ok (o:=o) (a:=a) (W:=W) (ρ:=ρ) hc hrc hr (fun t v hv m hm=>.inl (hn t v hv m hm)) (fun k T cs _ hk=>ctOf_ok hi hk) (fun f hf=>factsOf_ok hi hf) (hE W hi.top)
   exact takes_mono ht fun v W' ha=>conv_dy h hi wf ha
 have k2:∀ r,pureE P rd fb hp n o.op=some r→Pl fb hp n r∧∀ (ρ:Env) (W:World) (a:Act),Inv X w00 fb ρ hp W→(∀ t v,rd t=some v→a.tmps.getD t undef=v.den ρ)→(∀ t v,rd t=some v→∀ m∈v.nm,m<n) →
   takes P o a W fun v W'=>∃ ρ',Dy X w00 fb n r ρ W v ρ' W':=fun r h=>by
  unfold pureE at h
  split at h
  ·rename_i v hv
   refine ⟨pure_pl h,fun ρ W a hi hr _=>?_⟩
   exact takes_mono (specP_ok hv hi hr) fun u W' ⟨h1,h2⟩=>by subst h2;exact ⟨ρ,pure_dy h hi wf h1⟩
  ·cases h
 have k3:∀ r,specE P X call rd fb hp n o.op=some r→Pl fb hp n r∧∀ (ρ:Env) (W:World) (a:Act),Inv X w00 fb ρ hp W→(∀ t v,rd t=some v→a.tmps.getD t undef=v.den ρ)→(∀ t v,rd t=some v→∀ m∈v.nm,m<n) →
   takes P o a W fun v W'=>∃ ρ',Dy X w00 fb n r ρ W v ρ' W':=fun r h=>by
  obtain ⟨pl,go⟩:=specE_ok hcall h wf
  exact ⟨pl,fun ρ W a hi hr _=>go ρ W a hi hr⟩
 unfold evalOp at h
 cases hic:isCall o.op with
 | true =>
  rw [hic,cond_true] at h
  split at h
  ·rename_i r' h1;cases h;exact k1 _ h1
  ·split at h
   ·rename_i r' h1;cases h;exact k3 _ h1
   ·exact k2 _ h
 | false =>
  rw [hic,cond_false] at h
  cases his:isStore o.op with
  | true =>
   rw [his,cond_true] at h
   split at h
   ·rename_i r' h1
    cases h
    obtain ⟨pl,go⟩:=stE_ok (X:=X) (w00:=w00) h1 wf
    exact ⟨pl,fun ρ W a hi hr _=>go ρ W a hi hr⟩
   ·exact k1 _ h
  | false =>
   rw [his,cond_false] at h
   split at h
   ·rename_i r' h1;cases h;exact k2 _ h1
   ·split at h
    ·rename_i r' h1;cases h;exact k1 _ h1
    ·exact k3 _ h
theorem callN_ok (hm:P.follows .mixedOrders=true) (hc:∀ c∈cons,c.Ok P S E) (hE:∀ W,Below w00.heap.size w00 W→E W) (fuel:Nat):∀ d,CallOk P X w00 (callN P X H cons fuel d)
 | 0=>fun fb f args hp n r h=>by simp [callN] at h
 | d+1=>runY_ok hm (evalOp_ev hc hE (callN_ok hm hc hE fuel d)) fuel
theorem call_ok (hm:P.follows .mixedOrders=true) (hc:∀ c∈cons,c.Ok P S E) {fuel d:Nat} {f:FuncId} {args:List SV} {fs:List S.F} {n:Nat} {r:Rs S} {ρ:Env} {w:World} (h:callN P X H cons fuel d [] f args (addF X .l fs) n=some r)
  (hE:∀ W,Below w.heap.size w W→E W) (hf:∀ f∈fs,S.on ρ f w) (hn:fs.all (fun f=>Nat.blt (X.key f) n && nmB n (S.nm f))=true) (ht:n≤top) :
  Calls P f (args.map (SV.den ρ)).toArray w fun e W'=>∃ ρ':Env,(∀ m,m<n→ρ' m=ρ m)∧e=.returned (r.v.den ρ')∧Below w.heap.size w W'∧Inv X w [] ρ' r.hp W':=by
 have wf0:Wf (T.l:T (It S)) 0:=fun k i h=>by simp [T.get] at h
 obtain ⟨-,h2⟩:=addF_get (X:=X) (n':=n) (fs:=fs) (hp0:=.l) (hp:=.l) wf0 ht (fun f hf=>by
  have:=List.all_eq_true.1 hn f hf
  simp only [Bool.and_eq_true] at this
  exact ⟨Nat.zero_le _,Nat.le_of_ble_eq_true this.1⟩) (fun _ _=>rfl) (fun f=>f∈fs) (fun k i _ hg=>by simp [T.get] at hg) (fun _ h=>h)
 have wf:Wf (addF X .l fs) n:=fun k i hg=>by
  obtain ⟨h3,l,rfl,h4⟩:=h2 k i (Nat.zero_le _) hg
  refine ⟨h3,fun m hm=>?_⟩
  obtain ⟨f,hf,hm⟩:=List.mem_flatMap.1 hm
  have:=List.all_eq_true.1 hn f (h4 f hf)
  simp only [Bool.and_eq_true] at this
  exact nmB_ok this.2 m hm
 obtain ⟨pl,go⟩:=callN_ok (X:=X) (H:=H) hm hc hE fuel d _ _ _ _ _ _ h wf
 have hi:Inv X w [] ρ (addF X .l fs) w:=by
  refine ⟨Below.refl _ _,fun k i hg _=>?_,fun k T cs e p hg _=>?_,fun k k' T cs e p T' cs' e' p' hg=>?_⟩
  ·obtain ⟨-,l,rfl,h4⟩:=h2 k i (Nat.zero_le _) hg
   exact fun f hf'=>hf f (h4 f hf')
  ·obtain ⟨-,l,e,-⟩:=h2 k _ (Nat.zero_le _) hg;cases e
  ·obtain ⟨-,l,e,-⟩:=h2 k _ (Nat.zero_le _) hg;cases e
 exact (go ρ w hi).mono fun e W' ⟨v,ρ',he,dy⟩=>⟨ρ',fun m hm=>dy.ag m (.inl hm),by rw [he,dy.v],dy.inv.top,dy.inv⟩
end
end Rx.Ry
end Go.Proofs.YteeelpcgbenjjaaGreatDoor
