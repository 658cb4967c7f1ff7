/- What the proof rests on, part 28. -/
import Derived.Test.YtmijlcldmefggaaGreatDoorZ27
namespace Go.Proofs.YtmijlcldmefggaaGreatDoor
set_option maxRecDepth 100000
set_option maxHeartbeats 80000000
namespace Rx.Ry
open Go.RowKit
section
variable {P:Program} {S:Sys} {X:Xt S} {w00 W W':World} {fb:List (Nat×Nat)} {ρ:Env} {hp:T (It S)} {n:Nat} {r:Rs S}
theorem rep_drop (a b:Nat) (p:List Nat):((List.replicate (a+b) p).flatten).drop (a*p.length)=(List.replicate b p).flatten:=by
 rw [flat_rep,List.drop_append_of_le_length (by simp),List.drop_eq_nil_of_le (by simp),List.nil_append]
theorem rep_len (a:Nat) (p:List Nat):(List.replicate a p).flatten.length=a*p.length:=by simp
theorem appE_ok {c:Call} {args:List SV} (h:appE P X fb hp n c args=some r) (wf:Wf hp n) (ty:TypeId):Pl fb hp n r∧∀ (ρ:Env) (W:World),Inv X w00 fb ρ hp W →
  ∃ v W' ρ',(Builtin.append_ c.argTypes ty (args.map (SV.den ρ)).toArray).run P W=.ok v W'∧Dy X w00 fb n r ρ W v ρ' W':=by
 unfold appE at h
 split at h
 ·rename_i s x
  split at h
  ·rename_i t t' hty
   split at h
   ·rename_i e0
    subst e0
    have hat:c.argTypes=#[t,t]:=by apply Array.ext';rw [hty]
    split at h
    ·rename_i e hu
     split at h
     ·rename_i i zc hin hz
      split at h
      ·rename_i m news hcx
       cases hb:(Nat.beq i.size zc.length && Nat.blt 0 zc.length && Nat.blt 0 m) with
       | false=>rw [hb] at h;cases h
       | true =>
        rw [hb,cond_true] at h
        simp only [Bool.and_eq_true] at hb
        have hsz:=Nat.eq_of_beq_eq_true hb.1.1
        have h0:0<zc.length:=Nat.le_of_ble_eq_true hb.1.2
        have hm0:0<m:=Nat.le_of_ble_eq_true hb.2
        have hx:∀ (ρ:Env) (W:World),Inv X w00 fb ρ hp W→∃ (a:Addr) (cc:Nat),x.den ρ=.slice (some a) m cc∧(news.map (Cell.den ρ)).length=m*i.size∧∀ j v,(news.map (Cell.den ρ))[j]? = some v→W.cell? (a.add j)=some v:=fun ρ W hi=>by
         rcases cellsOf_ok hcx hi with ⟨h1,-,-⟩ | ⟨b,off,cc,h1,h2,h3⟩
         ·omega
         ·exact ⟨_,cc,h1,by rw [List.length_map,h2,hsz],h3⟩
        have hz':=fun ρ=>zeroB_ok hz ρ
        have hgrown:∀ w need old,need≤grownCap w need old e:=fun w need old=>grownCap_ge w need old e
        split at h
        ·-- nil
         cases hb2:(Nat.ble (m*i.bytes) 140737488355328 && Nat.ble m 9223372036854775807) with
         | false=>rw [hb2] at h;cases h
         | true =>
          rw [hb2,cond_true] at h
          simp only [Bool.and_eq_true] at hb2
          have b1:=Nat.le_of_ble_eq_true hb2.1
          have b2:=Nat.le_of_ble_eq_true hb2.2
          refine ⟨newU_pl h,fun ρ W hi=>?_⟩
          obtain ⟨a,cc,hxv,hl,hn⟩:=hx ρ W hi
          obtain ⟨i',z,hi1,hi2,hi3⟩:=hz' ρ
          rw [hin] at hi1
          cases hi1
          have hrun:=run_append_nil (P:=P) W t ty e i z hu hin hi2 a m cc (news.map (Cell.den ρ)) hl hn hm0 (by omega) (by omega)
          obtain ⟨u,-⟩:=newU_in h
          have hdy:=newU_dy (C:=grownCap W m 0 e) (rest:=(Builtin.zeroCells z.cells (grownCap W m 0 e - m)).toList) (W':=W.drew.alloc (.cells ((news.map (Cell.den ρ)).toArray ++ Builtin.zeroCells z.cells (grownCap W m 0 e - m)) e)) h hi wf (below_new W _) (by
           have:=bx_new W e (news.map (Cell.den ρ) ++ (Builtin.zeroCells z.cells (grownCap W m 0 e - m)).toList)
           rwa [← List.append_toArray,Array.toArray_toList] at this) (by
           rw [List.map_append,okK_den,u.kd,zero_rest hi3 h0,← flat_rep]
           congr 2
           have:=hgrown W m 0
           omega)
          refine ⟨_,_,_,?_,hdy⟩
          rw [hat]
          show (Builtin.append_ #[t,t] ty #[Value.slice none 0 0,x.den ρ]).run P W=_
          rw [hxv]
          exact hrun
        ·rename_i k len
         split at h
         ·rename_i T cs cap pat hs
          obtain ⟨hs1,hs2⟩:=see_some hs
          cases hb2:Nat.ble (len+m) cap with
          | true =>
           rw [hb2,cond_true] at h
           have b1:=Nat.le_of_ble_eq_true hb2
           split at h
           ·rename_i hT
            subst hT
            refine ⟨store_pl h,fun ρ W hi=>?_⟩
            obtain ⟨a,cc,hxv,hl,hn⟩:=hx ρ W hi
            obtain ⟨rest,hbx,-,hrest,hcap⟩:=hi.sat k _ hs1 hs2
            obtain ⟨T',cs',ex',pat',si⟩:=store_in h
            have hsame:=si.see.1.symm.trans hs1
            cases hsame
            have hle:=si.le
            have hrun:=run_append_room (P:=P) W t ty T i hu hin (ρ k).pos len (ρ k).c (cs.map (Cell.den ρ) ++ rest).toArray hbx a m cc (news.map (Cell.den ρ)) hl hn (fun u hu=>by obtain ⟨c,-,rfl⟩:=List.mem_map.1 hu;exact one_cell c) (by omega) (by
             rw [hsz]
             simp only [List.length_map,List.size_toArray,List.length_append]
             omega)
            have hdy:=store_dy' (v:=.slice (some ⟨(ρ k).pos,0,none⟩) (len+m) (ρ k).c) (W':=W.setRow (ρ k).pos ((cs.map (Cell.den ρ) ++ rest).toArray.toList.take (len*i.size) ++ news.map (Cell.den ρ) ++ (cs.map (Cell.den ρ) ++ rest).toArray.toList.drop (len*i.size+(news.map (Cell.den ρ)).length)).toArray) h hi wf (by simp [SV.den,El.den,Cell.den]) fun T2 cs2 rest2 hb2 hle2=>by
             have hsm:=hbx.symm.trans hb2
             simp only [Option.some.injEq,Obj.cells.injEq,and_true] at hsm
             obtain ⟨e1,e2⟩:=hsm
             have e1:=congrArg Array.toList e1
             simp only at e1
             obtain ⟨q1,q2,q3,q4⟩:=setRow_ok (vs:=(cs.map (Cell.den ρ) ++ rest).toArray.toList.take (len*i.size) ++ news.map (Cell.den ρ) ++ (cs.map (Cell.den ρ) ++ rest).toArray.toList.drop (len*i.size+(news.map (Cell.den ρ)).length)) hbx
             refine ⟨?_,q2,q3,q4⟩
             rw [e2] at q1
             rw [show (cs.map (Cell.den ρ) ++ rest).toArray.toList=cs2.map (Cell.den ρ) ++ rest2 from e1,hsz] at q1
             rw [show (cs.map (Cell.den ρ) ++ rest).toArray.toList=cs2.map (Cell.den ρ) ++ rest2 from e1,hsz]
             rw [splice_rest ρ hle2] at q1 ⊢
             exact q1
            refine ⟨_,_,_,?_,hdy⟩
            rw [hat]
            show (Builtin.append_ #[t,t] ty #[Value.slice (some ⟨(ρ k).pos,0,none⟩) len ((ρ k).c - 0),x.den ρ]).run P W=_
            rw [hxv]
            exact hrun
           ·cases h
          | false =>
           rw [hb2,cond_false] at h
           cases hb3:(Nat.ble (len*zc.length) cs.length && Nat.ble ((len+m)*i.bytes) 140737488355328 && Nat.ble (len+m) 9223372036854775807) with
           | false=>rw [hb3] at h;cases h
           | true =>
            rw [hb3,cond_true] at h
            simp only [Bool.and_eq_true] at hb3
            have c1:=Nat.le_of_ble_eq_true hb3.1.1
            have c2:=Nat.le_of_ble_eq_true hb3.1.2
            have c3:=Nat.le_of_ble_eq_true hb3.2
            have c4:cap<len+m:=by
             rcases Nat.lt_or_ge cap (len+m) with h | h
             ·exact h
             ·rw [Nat.ble_eq_true_of_le h] at hb2;cases hb2
            refine ⟨newU_pl h,fun ρ W hi=>?_⟩
            obtain ⟨a,cc,hxv,hl,hn⟩:=hx ρ W hi
            obtain ⟨i',z,hi1,hi2,hi3⟩:=hz' ρ
            rw [hin] at hi1
            cases hi1
            obtain ⟨rest,hbx,-,hrest,hcap⟩:=hi.sat k _ hs1 hs2
            have hrun:=run_append_grow (P:=P) W t ty e i z hu hin hi2 ⟨(ρ k).pos,0,none⟩ len (ρ k).c ((cs.take (len*zc.length)).map (Cell.den ρ)) (by rw [hsz];simp;omega) (fun j v hv=>by
             rw [add_off,hbx.cell,Nat.zero_add]
             rw [List.map_take,List.getElem?_take] at hv
             split at hv
             ·have:=(List.getElem?_eq_some_iff.1 hv).1
              rw [List.getElem?_append_left this];exact hv
             ·cases hv) a m cc (news.map (Cell.den ρ)) hl hn (by omega) (by omega) (growslice_fits (by omega) c2)
            obtain ⟨u,-⟩:=newU_in h
            have hdy:=newU_dy (C:=grownCap W (len+m) (ρ k).c e) (rest:=(Builtin.zeroCells z.cells (grownCap W (len+m) (ρ k).c e - (len+m))).toList) (W':=W.drew.alloc (.cells (((cs.take (len*zc.length)).map (Cell.den ρ)).toArray ++ (news.map (Cell.den ρ)).toArray ++ Builtin.zeroCells z.cells (grownCap W (len+m) (ρ k).c e - (len+m))) e)) h hi wf (below_new W _) (by
             rw [List.map_append]
             exact bx_new3 W e _ _ _) (by
             rw [List.map_append,okK_den,u.kd,zero_rest hi3 h0,← flat_rep]
             congr 2
             have:=hgrown W (len+m) (ρ k).c
             omega)
            refine ⟨_,_,_,?_,hdy⟩
            rw [hat]
            show (Builtin.append_ #[t,t] ty #[Value.slice (some ⟨(ρ k).pos,0,none⟩) len ((ρ k).c - 0),x.den ρ]).run P W=_
            rw [hxv]
            exact hrun
         ·rename_i T cs pat hs
          obtain ⟨hs1,hs2⟩:=see_some hs
          cases hb3:(Nat.beq (len*zc.length) cs.length && Nat.ble ((len+m)*i.bytes) 140737488355328 && Nat.ble (len+m) 9223372036854775807 && decide (T=e) && eqL pat (zc.map kdC)) with
          | false=>rw [hb3] at h;cases h
          | true =>
           rw [hb3,cond_true] at h
           simp only [Bool.and_eq_true,decide_eq_true_eq] at hb3
           have c1:=Nat.eq_of_beq_eq_true hb3.1.1.1.1
           have c2:=Nat.le_of_ble_eq_true hb3.1.1.1.2
           have c3:=Nat.le_of_ble_eq_true hb3.1.1.2
           obtain rfl:=hb3.1.2
           have c5:=eqL_eq hb3.2
           refine ⟨growU_pl h hs,fun ρ W hi=>?_⟩
           obtain ⟨a,cc,hxv,hl,hn⟩:=hx ρ W hi
           obtain ⟨i',z,hi1,hi2,hi3⟩:=hz' ρ
           rw [hin] at hi1
           cases hi1
           obtain ⟨rest,hbx,hokk,hkk⟩:=hi.sat k _ hs1 hs2
           have hkk:(cs.map (Cell.den ρ) ++ rest).map kdV=(List.replicate (ρ k).c pat).flatten:=hkk
           obtain ⟨u,hkn,-⟩:=growU_in h
           have hplen:pat.length=zc.length:=by rw [c5];simp
           have hlenk:=congrArg List.length hkk
           rw [rep_len,List.length_map,List.length_append,List.length_map,hplen,← c1] at hlenk
           have hlC:len≤(ρ k).c:=Nat.le_of_mul_le_mul_right (show len*zc.length≤(ρ k).c*zc.length by omega) h0
           have hu2:=u.kd
           rw [List.map_append,flat_rep] at hu2
           have hkc:cs.map kdC=(List.replicate len pat).flatten∧news.map kdC=(List.replicate m pat).flatten:=List.append_inj hu2 (by rw [rep_len,List.length_map,hplen,c1])
           have hrest:rest.map kdV=(List.replicate ((ρ k).c - len) pat).flatten:=by
            rw [List.map_append,okK_den,hkc.1,show (ρ k).c=len+((ρ k).c - len) by omega,flat_rep] at hkk
            exact List.append_cancel_left hkk
           rcases Nat.lt_or_ge (ρ k).c (len+m) with hg | hg
           ·have hrun:=run_append_grow (P:=P) W t ty T i z hu hin hi2 ⟨(ρ k).pos,0,none⟩ len (ρ k).c (cs.map (Cell.den ρ)) (by rw [hsz,List.length_map,c1]) (fun j v hv=>by
             rw [add_off,hbx.cell,Nat.zero_add]
             have:=(List.getElem?_eq_some_iff.1 hv).1
             rw [List.getElem?_append_left this];exact hv) a m cc (news.map (Cell.den ρ)) hl hn hg (by omega) (growslice_fits (by omega) c2)
            have hdy:=growU_dy (C:=grownCap W (len+m) (ρ k).c T) (p:=W.heap.size) (rest:=(Builtin.zeroCells z.cells (grownCap W (len+m) (ρ k).c T - (len+m))).toList) (W':=W.drew.alloc (.cells ((cs.map (Cell.den ρ)).toArray ++ (news.map (Cell.den ρ)).toArray ++ Builtin.zeroCells z.cells (grownCap W (len+m) (ρ k).c T - (len+m))) T)) h hi wf hs (hi.top.trans ((below_new W _).mono hi.top.size)) (by
              have:=fr_below (S:=S) (ρ:=ρ) (below_new W (.cells ((cs.map (Cell.den ρ)).toArray ++ (news.map (Cell.den ρ)).toArray ++ Builtin.zeroCells z.cells (grownCap W (len+m) (ρ k).c T - (len+m))) T))
              exact ⟨this.sz,fun b hb _=>this.blk b hb (by simp),this.fct⟩) (by
              rw [List.map_append]
              exact bx_new3 W T _ _ _) (by
              rw [List.map_append,okK_den,u.kd,zero_rest hi3 h0,← c5,← flat_rep]
              congr 2
              have:=grownCap_ge W (len+m) (ρ k).c T
              omega) (.inl (Nat.le_refl _))
            refine ⟨_,_,_,?_,hdy⟩
            rw [hat]
            show (Builtin.append_ #[t,t] ty #[Value.slice (some ⟨(ρ k).pos,0,none⟩) len ((ρ k).c - 0),x.den ρ]).run P W=_
            rw [hxv]
            exact hrun
           ·have hnl:(news.map (Cell.den ρ)).length=m*zc.length:=by rw [hl,hsz]
            have hrun:=run_append_room (P:=P) W t ty T i hu hin (ρ k).pos len (ρ k).c (cs.map (Cell.den ρ) ++ rest).toArray hbx a m cc (news.map (Cell.den ρ)) hl hn (fun u hu=>by obtain ⟨c,-,rfl⟩:=List.mem_map.1 hu;exact one_cell c) hg (by
             have h7:(len+m)*zc.length≤(ρ k).c*zc.length:=Nat.mul_le_mul_right _ hg
             rw [Nat.add_mul] at h7
             rw [hsz,hnl]
             simp only [List.size_toArray,List.length_append,List.length_map]
             omega)
            have htk:(cs.map (Cell.den ρ) ++ rest).toArray.toList.take (len*i.size)=cs.map (Cell.den ρ):=by
             show (cs.map (Cell.den ρ) ++ rest).take (len*i.size)=_
             rw [hsz,c1,List.take_append_of_le_length (by simp)]
             exact List.take_of_length_le (by simp)
            have hdr:(cs.map (Cell.den ρ) ++ rest).toArray.toList.drop (len*i.size+(news.map (Cell.den ρ)).length)=rest.drop (m*zc.length):=by
             show (cs.map (Cell.den ρ) ++ rest).drop (len*i.size+(news.map (Cell.den ρ)).length)=_
             rw [hsz,c1,hnl,← List.drop_drop]
             congr 1
             rw [List.drop_append_of_le_length (by simp),List.drop_of_length_le (by simp),List.nil_append]
            obtain ⟨q1,q2,q3,q4⟩:=setRow_ok (vs:=(cs ++ news).map (Cell.den ρ) ++ rest.drop (m*zc.length)) hbx
            rw [htk,hdr,← List.map_append] at hrun
            have hdy:=growU_dy (C:=(ρ k).c) (p:=(ρ k).pos) (rest:=rest.drop (m*zc.length)) (W':=W.setRow (ρ k).pos ((cs ++ news).map (Cell.den ρ) ++ rest.drop (m*zc.length)).toArray) h hi wf hs (q4 _ _ hi.top (hi.lo k ⟨_,hs1,rfl⟩ hs2)) ⟨Nat.le_of_eq q2.symm,fun b hb hne=>q3 b fun e=>hne k (by simp) e.symm,fun ρ' f hf=>X.chg hf (Nat.le_of_eq q2.symm) fun b hb=>by
              by_cases e:b=(ρ k).pos
              ·exact .inr (.inl ⟨T,_,by rw [e];exact hbx,hokk⟩)
              ·exact .inl (q3 b e)⟩ q1 (by
              rw [List.map_append,okK_den,u.kd,List.map_drop,hrest,show (ρ k).c - len=m+((ρ k).c - len - m) by omega,← hplen,rep_drop,← flat_rep]
              congr 2
              omega) (.inr rfl)
            refine ⟨_,_,_,?_,hdy⟩
            rw [hat]
            show (Builtin.append_ #[t,t] ty #[Value.slice (some ⟨(ρ k).pos,0,none⟩) len ((ρ k).c - 0),x.den ρ]).run P W=_
            rw [hxv]
            exact hrun
         ·cases h
        ·cases h
      ·cases h
     ·cases h
    ·cases h
   ·cases h
  ·cases h
 ·cases h
theorem run_append_none {t ty e:TypeId} {z sLen sCap:Nat} {base:Option Addr} {x:Value} {w:World} (hu:P.underlying t=some (.slice e)) (hz:sizeB P e=some z) (hle:sLen≤sCap) (hx:(∃ a c,x=.slice a 0 c)) :
  (Builtin.append_ #[t,t] ty #[.slice base sLen sCap,x]).run P w=.ok (.slice base sLen sCap) w:=by
 obtain ⟨a,c,rfl⟩:=hx
 have hs:=run_sizeOf (P:=P) (w:=w) hz
 have hf:(Builtin.firstCells z 0 (.slice a 0 c)).run P w=.ok #[] w:=by
  cases a with
  | none=>exact run_firstCells_none w z 0 0 c
  | some a=>exact run_firstCells_some w z 0 a 0 c [] (by simp) (fun j v hj=>by simp at hj)
 cases base <;> simp [Builtin.append_,run_underlying hu,hs,hf,hle,Builtin.lenOf,storeCells]
theorem appG_ok {c:Call} {args:List SV} (h:appG P X fb hp n c args=some r) (wf:Wf hp n) (ty:TypeId):Pl fb hp n r∧∀ (ρ:Env) (W:World),Inv X w00 fb ρ hp W →
  ∃ v W' ρ',(Builtin.append_ c.argTypes ty (args.map (SV.den ρ)).toArray).run P W=.ok v W'∧Dy X w00 fb n r ρ W v ρ' W':=by
 unfold appG at h
 split at h
 ·rename_i s x
  split at h
  ·rename_i t t' hty
   split at h
   ·rename_i e0
    subst e0
    have hat:c.argTypes=#[t,t]:=by apply Array.ext';rw [hty]
    split at h
    ·rename_i e hu
     split at h
     ·rename_i i zc hin hz
      split at h
      ·rename_i m news len' olds hcx hcs
       cases hb:(Nat.beq i.size zc.length && Nat.blt 0 zc.length) with
       | false=>rw [hb] at h;cases h
       | true =>
        rw [hb,cond_true] at h
        simp only [Bool.and_eq_true] at hb
        have hsz:=Nat.eq_of_beq_eq_true hb.1
        have h0:0<zc.length:=Nat.le_of_ble_eq_true hb.2
        cases hm:Nat.beq m 0 with
        | true =>
         rw [hm,cond_true] at h
         have hm0:=Nat.eq_of_beq_eq_true hm
         have hx0:∀ (ρ:Env) (W:World),Inv X w00 fb ρ hp W→∃ a c,x.den ρ=.slice a 0 c:=fun ρ W hi=>by
          rcases cellsOf_ok hcx hi with ⟨-,-,h3⟩ | ⟨b,off,cc,h1,-⟩
          ·exact ⟨none,0,h3⟩
          ·rw [hm0] at h1;exact ⟨_,cc,h1⟩
         have hze:sizeB P e=some i.size:=by unfold sizeB;rw [hin];rfl
         have fin:pureR hp n s=some r→(∀ (ρ:Env) (W:World),Inv X w00 fb ρ hp W→∃ b l c,s.den ρ=.slice b l c∧l≤c)→Pl fb hp n r∧∀ (ρ:Env) (W:World),Inv X w00 fb ρ hp W →
           ∃ v W' ρ',(Builtin.append_ c.argTypes ty (([s,x]:List SV).map (SV.den ρ)).toArray).run P W=.ok v W'∧Dy X w00 fb n r ρ W v ρ' W':=fun h hsl=>by
          refine ⟨pure_pl h,fun ρ W hi=>⟨s.den ρ,W,ρ,?_,pure_dy h hi wf rfl⟩⟩
          obtain ⟨b,l,cp,hsv,hlc⟩:=hsl ρ W hi
          rw [hat]
          show (Builtin.append_ #[t,t] ty #[s.den ρ,x.den ρ]).run P W=_
          rw [hsv]
          exact run_append_none hu hze hlc (hx0 ρ W hi)
         split at h
         ·exact fin h fun ρ W hi=>⟨none,0,0,rfl,Nat.le_refl _⟩
         ·split at h
          ·rename_i k off len cap hbas
           cases hlc:Nat.ble len cap with
           | false=>rw [hlc] at h;cases h
           | true =>
            rw [hlc] at h
            exact fin h fun ρ W hi=>⟨_,_,_,basC_ok hbas hi,Nat.le_of_ble_eq_true hlc⟩
          ·cases h
        | false =>
         rw [hm,cond_false] at h
         split at h
         ·rename_i k off len cap hbas
          cases hb2:(Nat.beq len len' && Nat.blt cap (len+m) && Nat.ble ((len+m)*i.bytes) 140737488355328 && Nat.ble (len+m) 9223372036854775807) with
          | false=>rw [hb2] at h;cases h
          | true =>
           rw [hb2,cond_true] at h
           simp only [Bool.and_eq_true] at hb2
           have b1:=Nat.eq_of_beq_eq_true hb2.1.1.1
           have b3:cap<len+m:=Nat.le_of_ble_eq_true hb2.1.1.2
           have b4:=Nat.le_of_ble_eq_true hb2.1.2
           have b5:=Nat.le_of_ble_eq_true hb2.2
           subst b1
           have hm0:0<m:=by
            rcases Nat.eq_zero_or_pos m with e | e
            ·rw [e] at hm;cases hm
            ·exact e
           refine ⟨newU_pl h,fun ρ W hi=>?_⟩
           have hs:=basC_ok hbas hi
           obtain ⟨a,cc,hxv,hl,hn⟩:∃ (a:Addr) (cc:Nat),x.den ρ=.slice (some a) m cc∧(news.map (Cell.den ρ)).length=m*i.size∧∀ j v,(news.map (Cell.den ρ))[j]? = some v→W.cell? (a.add j)=some v:=by
            rcases cellsOf_ok hcx hi with ⟨h1,-,-⟩ | ⟨b,off,cc,h1,h2,h3⟩
            ·omega
            ·exact ⟨_,cc,h1,by rw [List.length_map,h2,hsz],h3⟩
           obtain ⟨ho1,ho2⟩:(olds.map (Cell.den ρ)).length=len*i.size∧∀ j v,(olds.map (Cell.den ρ))[j]? = some v→W.cell? ((⟨(ρ k).pos,off,none⟩:Addr).add j)=some v:=by
            rcases cellsOf_ok hcs hi with ⟨-,-,h1⟩ | ⟨b,off',cc',h1,h2,h3⟩
            ·rw [hs] at h1;cases h1
            ·rw [hs] at h1
             simp only [Value.slice.injEq,Option.some.injEq,true_and] at h1
             refine ⟨by rw [List.length_map,h2,hsz],fun j v hv=>?_⟩
             rw [h1.1];exact h3 j v hv
           obtain ⟨i',z,hi1,hi2,hi3⟩:=zeroB_ok hz ρ
           rw [hin] at hi1
           cases hi1
           have hrun:=run_append_grow (P:=P) W t ty e i z hu hin hi2 ⟨(ρ k).pos,off,none⟩ len cap (olds.map (Cell.den ρ)) ho1 ho2 a m cc (news.map (Cell.den ρ)) hl hn b3 (by omega) (growslice_fits (by omega) b4)
           obtain ⟨u,-⟩:=newU_in h
           have hdy:=newU_dy (C:=grownCap W (len+m) cap e) (rest:=(Builtin.zeroCells z.cells (grownCap W (len+m) cap e - (len+m))).toList) (W':=W.drew.alloc (.cells ((olds.map (Cell.den ρ)).toArray ++ (news.map (Cell.den ρ)).toArray ++ Builtin.zeroCells z.cells (grownCap W (len+m) cap e - (len+m))) e)) h hi wf (below_new W _) (by
            rw [List.map_append]
            exact bx_new3 W e _ _ _) (by
            rw [List.map_append,okK_den,u.kd,zero_rest hi3 h0,← flat_rep]
            congr 2
            have:=grownCap_ge W (len+m) cap e
            omega)
           refine ⟨_,_,_,?_,hdy⟩
           rw [hat]
           show (Builtin.append_ #[t,t] ty #[s.den ρ,x.den ρ]).run P W=_
           rw [hs,hxv]
           exact hrun
         ·cases h
      ·cases h
     ·cases h
    ·cases h
   ·cases h
  ·cases h
 ·cases h
end
end Rx.Ry
end Go.Proofs.YtmijlcldmefggaaGreatDoor
