/- What the proof rests on, part 4. -/
import Derived.Test.YtmijlcldmefggaaGreatDoorZ03
namespace Go.Proofs.YtmijlcldmefggaaGreatDoor
set_option maxRecDepth 100000
set_option maxHeartbeats 80000000
section
open Go.RowKit Go.Sort
structure Gs (U low by_ next q r:Nat):Prop where
 rest:q*by_+r=U
 rlt:r<B64
 qlt:q<B64
 big:U*B64+low<(q+1)*(by_*B64+next)
theorem Gs.start {U low by_ next q r:Nat} (e:q*by_+r=U) (hr:r<by_) (hb:by_<B64) (hq:q<B64) (hl:low<B64):Gs U low by_ next q r:=by
 refine ⟨e,by omega,hq,?_⟩
 have h1:U+1≤(q+1)*by_:=by rw [Nat.add_mul];omega
 have h2:(U+1)*B64≤(q+1)*by_*B64:=Nat.mul_le_mul_right _ h1
 have h3:(q+1)*(by_*B64+next)=(q+1)*by_*B64+(q+1)*next:=by rw [Nat.mul_add,Nat.mul_assoc]
 rw [Nat.add_mul] at h2
 omega
theorem Gs.expand {U by_ next q r:Nat} (e:q*by_+r=U):q*(by_*B64+next)+r*B64=U*B64+q*next:=by
 have h2:(q*by_+r)*B64=U*B64:=by rw [e]
 have h3:q*(by_*B64+next)=q*by_*B64+q*next:=by rw [Nat.mul_add,Nat.mul_assoc]
 rw [Nat.add_mul] at h2
 omega
theorem Gs.step {U low by_ next q r:Nat} (h:Gs U low by_ next q r) (ht:r*B64+low<q*next):1≤q∧(q - 1)*by_+(r+by_)=U∧U*B64+low<(q - 1+1)*(by_*B64+next):=by
 have he:=Gs.expand (next:=next) h.rest
 have hq:1≤q:=by
  rcases Nat.eq_zero_or_pos q with h0 | h0
  ·subst h0;omega
  ·exact h0
 obtain ⟨p,rfl⟩:∃ p,q=p+1:=⟨q - 1,by omega⟩
 refine ⟨hq,?_,?_⟩
 ·have:=h.rest;rw [Nat.add_mul] at this;rw [Nat.add_sub_cancel];omega
 ·rw [Nat.add_sub_cancel];omega
theorem gs_done {U low by_ next q r:Nat} (e:q*by_+r=U) (hb:U*B64+low<(q+1)*(by_*B64+next)) (ht:q*next≤r*B64+low) (hp:0<by_):q=(U*B64+low) / (by_*B64+next):=by
 have he:=Gs.expand (next:=next) e
 have hpos:0<by_*B64+next:=by have:=Nat.mul_pos hp B64_pos;omega
 symm
 rw [Nat.div_eq_iff hpos]
 constructor
 ·omega
 ·rw [Nat.add_mul] at hb;omega
theorem two_digits {o u r l p:Nat} (hu:u<B64) (hl:l<B64) (e:u+B64*o=p):p≤r*B64+l↔o<r∨o=r∧u≤l:=by
 rw [Nat.mul_comm] at e
 constructor
 ·intro h
  rcases Nat.lt_trichotomy o r with h1 | h1 | h1
  ·exact .inl h1
  ·subst h1;exact .inr ⟨rfl,by omega⟩
  ·have:=Nat.mul_le_mul_right B64 (show r+1≤o from h1)
   rw [Nat.add_mul] at this
   omega
 ·rintro (h1 | ⟨rfl,h1⟩)
  ·have:=Nat.mul_le_mul_right B64 (show o+1≤r from h1)
   rw [Nat.add_mul] at this
   omega
  ·omega
def RetGuess (w:World) (n:Nat) (e:Ending) (w':World):Prop:=e=.returned (.int .u64 (n:Int))∧∃ q,w' = w.drewN q
theorem guess_calls (high middle low by_ next:Nat) (h2:middle<B64) (h3:low<B64) (h4:by_<B64) (h5:next<B64) (hp:0<by_) (w:World) :
  Calls Tryz.prog 218 #[.int .u64 (high:Int),.int .u64 (middle:Int),.int .u64 (low:Int),.int .u64 (by_:Int),.int .u64 (next:Int)] w (RetGuess w (guessD high middle low by_ next)):=by
 by_cases hlt:high<by_
 ·have HG:Hid (guessD high middle low by_ next=((high*B64+middle)*B64+low) / (by_*B64+next)):=by
   show _=_
   unfold guessD
   rw [if_pos hlt,Nat.add_mul]
  have HSt:=hid (Gs.start (next:=next) (div_spec high middle by_) (divR_lt high middle by_ hp) h4 (divQ_lt high middle by_ h2 hlt) h3)
  have hd:decide (by_≤high)=false:=decide_eq_false (by omega)
  have ha:=add64_run0
  have H2:=hid h2
  have H3:=hid h3
  have H4:=hid h4
  have H5:=hid h5
  have HLT:=hid hlt
  have HP:=hid hp
  clear h2 h3 h4 h5 hlt hp
  go_enter Tryz.func218,Tryz.ntmps218
  go_wp2_with fail
  refine (Div64_calls high middle by_ HLT.out H2.out H4.out _).mono ?_
  rintro e w' ⟨rfl,q1,rfl⟩
  clear hd
  go_wp2_with fail
  go_loop [11,12] (fun qv rv=>∃ q r:Nat,qv=.int .u64 q∧rv=.int .u64 r∧Gs (high*B64+middle) low by_ next q r) (fun qv _=>(intOf qv).toNat)
  case atStart=>exact ⟨_,_,rfl,rfl,HSt.out⟩
  case round =>
   clear HSt
   obtain ⟨q,r,rfl,rfl,hG⟩:=hrel
   have hq:=hid hG.qlt
   have htd:=two_digits (r:=r) (mulL_lt q next) H3.out (mul_spec q next)
   obtain ⟨ov,eov⟩:∃ u,mulH q next=u:=⟨_,rfl⟩
   obtain ⟨un,eun⟩:∃ u,mulL q next=u:=⟨_,rfl⟩
   have HM:Hid (∀ W,Calls Tryz.prog 107 #[.int .u64 (q:Int),.int .u64 (next:Int)] W fun e w'=>e=.returned (.tuple #[.int .u64 (ov:Int),.int .u64 (un:Int)])∧W=w'):=fun W=>by
    rw [← eov,← eun];exact Mul64_calls q next hq.out H5.out W
   rw [eov,eun] at htd
   have HTD:=hid htd
   have HGG:=hid hG
   clear htd eov eun hG
   by_cases c1:ov<r
   ·have d1:decide (ov<r)=true:=decide_eq_true c1
    have HF:Hid (q=guessD high middle low by_ next):=by
     show _=_
     rw [HG.out];exact gs_done HGG.out.rest HGG.out.big (HTD.out.2 (.inl c1)) HP.out
    clear c1
    go_wp2_with (first | go_big_skip | (go_at_call 107;refine (HM.out _).mono ?_;rintro e w' ⟨rfl,rfl⟩))
    go_ret
    exact ⟨congrArg (fun t:Nat=>Ending.returned (.int .u64 (t:Int))) HF.out,q1,rfl⟩
   ·have d1:decide (ov<r)=false:=decide_eq_false c1
    by_cases c2:ov=r∧un≤low
    ·have d2:((ov:Int) == (r:Int))=true:=by rw [beq_iff_eq];omega
     have d3:decide (un≤low)=true:=decide_eq_true c2.2
     have HF:Hid (q=guessD high middle low by_ next):=by
      show _=_
      rw [HG.out];exact gs_done HGG.out.rest HGG.out.big (HTD.out.2 (.inr c2)) HP.out
     clear c1 c2
     go_wp2_with (first | go_big_skip | (go_at_call 107;refine (HM.out _).mono ?_;rintro e w' ⟨rfl,rfl⟩))
     go_ret
     exact ⟨congrArg (fun t:Nat=>Ending.returned (.int .u64 (t:Int))) HF.out,q1,rfl⟩
    ·have hgt:r*B64+low<q*next:=by
      have:=HTD.out
      rcases Nat.lt_or_ge (r*B64+low) (q*next) with h | h
      ·exact h
      ·rcases this.1 h with h' | h'
       ·exact absurd h' c1
       ·exact absurd h' c2
     obtain ⟨t1,t2,t3⟩:=HGG.out.step hgt
     have hqq:=hq.out
     have w1:IntKind.u64.wrap ((q:Int) - 1)=((q - 1:Nat):Int):=by rw [show ((q - 1:Nat):Int)=(q:Int) - 1 by omega];exact IntWalk.u64_in _ (by unfold B64 at hqq;omega)
     have hlt:Hid (q - 1<q):=by show _<_;omega
     obtain ⟨q',eq'⟩:∃ u,q - 1=u:=⟨_,rfl⟩
     rw [eq'] at w1 t2 t3 hlt
     have hs:=add_spec r by_ 0
     have hsl:=addS_lt r by_ 0
     obtain ⟨sm,esm⟩:∃ u,addS r by_ 0=u:=⟨_,rfl⟩
     obtain ⟨cy,ecy⟩:∃ u,addC r by_ 0=u:=⟨_,rfl⟩
     have ha':=ha r by_
     rw [esm,ecy] at ha'
     rw [esm,ecy] at hs
     rw [esm] at hsl
     have T2:=hid t2
     have T3:=hid t3
     have HS:=hid hs
     have HSL:=hid hsl
     have hq':Hid (q' < B64):=by show _<_;omega
     have tail:∀ (X:Prop),(cy=0→X)→(cy≠0→X)→X:=fun X a b=>by by_cases h:cy=0;exact a h;exact b h
     by_cases cc:cy=0
     ·have d4:((cy:Int) != 0)=false:=by rw [bne_eq_false_iff_eq];omega
      have HN:Hid (Gs (high*B64+middle) low by_ next q' sm):=by
       have e:sm=r+by_:=by have:=HS.out;rw [cc] at this;omega
       exact ⟨by rw [e];exact T2.out,HSL.out,hq'.out,T3.out⟩
      by_cases c3:ov=r
      ·have d2:((ov:Int) == (r:Int))=true:=by rw [beq_iff_eq];omega
       have d3:decide (un≤low)=false:=decide_eq_false (fun h=>c2 ⟨c3,h⟩)
       clear ha c1 c2 c3 hgt t1 t2 t3 eq' esm ecy hs hsl cc hqq tail
       go_wp2_with (first | go_big_skip | (go_at_call 107;refine (HM.out _).mono ?_;rintro e w' ⟨rfl,rfl⟩))
       go_round
       case rel=>exact ⟨q',sm,rfl,rfl,HN.out⟩
       case measure=>simpa [intOf] using hlt.out
      ·have d2:((ov:Int) == (r:Int))=false:=by rw [beq_eq_false_iff_ne];omega
       clear ha c1 c2 c3 hgt t1 t2 t3 eq' esm ecy hs hsl cc hqq tail
       go_wp2_with (first | go_big_skip | (go_at_call 107;refine (HM.out _).mono ?_;rintro e w' ⟨rfl,rfl⟩))
       go_round
       case rel=>exact ⟨q',sm,rfl,rfl,HN.out⟩
       case measure=>simpa [intOf] using hlt.out
     ·have d4:((cy:Int) != 0)=true:=by rw [bne_iff_ne];omega
      have HF:Hid (q' = guessD high middle low by_ next):=by
       show _=_
       rw [HG.out]
       refine gs_done T2.out T3.out ?_ HP.out
       have e1:B64≤r+by_:=by
        have h6:=HS.out
        have h7:B64*1≤B64*cy:=Nat.mul_le_mul_left _ (by omega)
        omega
       have e2:q' * next≤B64*B64:=Nat.mul_le_mul (Nat.le_of_lt hq'.out) (Nat.le_of_lt H5.out)
       have e3:B64*B64≤(r+by_)*B64:=Nat.mul_le_mul_right _ e1
       omega
      by_cases c3:ov=r
      ·have d2:((ov:Int) == (r:Int))=true:=by rw [beq_iff_eq];omega
       have d3:decide (un≤low)=false:=decide_eq_false (fun h=>c2 ⟨c3,h⟩)
       clear ha c1 c2 c3 hgt t1 t2 t3 eq' esm ecy hs hsl cc hqq tail
       go_wp2_with (first | go_big_skip | (go_at_call 107;refine (HM.out _).mono ?_;rintro e w' ⟨rfl,rfl⟩))
       go_ret
       exact ⟨congrArg (fun t:Nat=>Ending.returned (.int .u64 (t:Int))) HF.out,q1,rfl⟩
      ·have d2:((ov:Int) == (r:Int))=false:=by rw [beq_eq_false_iff_ne];omega
       clear ha c1 c2 c3 hgt t1 t2 t3 eq' esm ecy hs hsl cc hqq tail
       go_wp2_with (first | go_big_skip | (go_at_call 107;refine (HM.out _).mono ?_;rintro e w' ⟨rfl,rfl⟩))
       go_ret
       exact ⟨congrArg (fun t:Nat=>Ending.returned (.int .u64 (t:Int))) HF.out,q1,rfl⟩
 ·have HG:Hid (guessD high middle low by_ next=B64 - 1):=by
   show _=_
   unfold guessD
   rw [if_neg hlt]
  have hd:decide (by_≤high)=true:=decide_eq_true (by omega)
  clear h2 h3 h4 h5 hlt
  go_enter Tryz.func218,Tryz.ntmps218
  go_wp2_with fail
  go_ret
  exact ⟨by rw [HG.out];rfl,0,rfl⟩
end
section
open Go.RowKit Go.Sort
def NatV (w:World) (v:Value) (n:Nat):Prop:=
 (n=0∧v=.slice none 0 0)∨∃ (b o cp:Nat) (ds:List Nat),v=.slice (some ⟨b,o,none⟩) ds.length cp∧b<w.heap.size∧ds.length≤cp∧Dig ds∧Trimmed ds∧val ds=n∧Digs w b o ds
theorem NatV.below {w w':World} {v:Value} {n:Nat} (h:NatV w v n) (hb:Below w.heap.size w w'):NatV w' v n:=by
 rcases h with h | ⟨b,o,cp,ds,h1,h2,h3,h4,h5,h6,h7⟩
 ·exact .inl h
 ·exact .inr ⟨b,o,cp,ds,h1,by have:=hb.size;omega,h3,h4,h5,h6,h7.below hb h2⟩
theorem NatV.mk {w:World} {b o k n:Nat} {ds:List Nat} (hb:b<w.heap.size) (hd:Dig ds) (ht:Tail0 ds k) (hv:val ds=n) (hD:Digs w b o ds):NatV w (.slice (some ⟨b,o,none⟩) k k) n:=by
 have hl:(ds.take k).length=k:=by rw [List.length_take];exact Nat.min_eq_left ht.1
 refine .inr ⟨b,o,k,ds.take k,by rw [hl],hb,by omega,hd.take k,ht.trimmed,by rw [ht.val,hv],fun j hj=>?_⟩
 rw [List.getElem?_take_of_lt (by omega)]
 exact hD j (by rw [hl] at hj;have:=ht.1;omega)
theorem below_drewN {B:Nat} (w:World) (n:Nat):Below B w (w.drewN n):=⟨rfl,rfl,rfl,Nat.le_refl _,fun _ _=>rfl⟩
def RetDivide (w:World) (n m:Nat) (e:Ending) (w':World):Prop:=∃ q r,e=.returned (.tuple #[q,r])∧NatV w' q n∧NatV w' r m∧Below w.heap.size w w'
theorem divide_small (nx ny b o cp b2 o2 cp2:Nat) (xs ys:List Nat) (w:World) (hx:Digs w b o xs) (hy:Digs w b2 o2 ys) (hb:b<w.heap.size) (dx:Dig xs) (dy:Dig ys) (tx:Trimmed xs) (ty:Trimmed ys) (hcp:xs.length≤cp)
  (hsx:xs.length≤274877906944) (hlt:val xs<val ys) (hnx:xs.length=nx) (hny:ys.length=ny) :
  Calls Tryz.prog 162 #[.slice (some ⟨b,o,none⟩) nx cp,.slice (some ⟨b2,o2,none⟩) ny cp2] w (RetDivide w (val xs / val ys) (val xs % val ys)):=by
 subst hnx hny
 have HC:=hid (cmp_calls b o cp b2 o2 cp2 xs ys w hx hy dx dy tx ty (by omega))
 have HV:Hid (cmpN (val xs) (val ys) = -1):=cmpN_lt hlt
 have HX:=hid hx
 have HLT:=hid hlt
 clear hx hy hlt
 go_enter Tryz.func162,Tryz.ntmps162
 go_wp2_with fail
 refine HC.out.mono ?_
 rintro e w' ⟨rfl,q,rfl⟩
 rw [HV.out]
 go_wp2
 go_ret2
 refine ⟨_,_,rfl,.inl ⟨Nat.div_eq_of_lt HLT.out,rfl⟩,.inr ⟨b,o,cp,xs,rfl,hb,hcp,dx,tx,(Nat.mod_eq_of_lt HLT.out).symm,HX.out⟩,below_drewN _ _⟩
structure Rows2 (w wr:World) (L Y:Nat) (lf yr:List Nat):Prop where
 hl:HoldsL wr L 0 lf
 hy:HoldsL wr Y 0 yr
 ne:L≠Y
 lL:w.heap.size≤L
 lY:w.heap.size≤Y
 uL:L<wr.heap.size
 uY:Y<wr.heap.size
 below:Below w.heap.size w wr
theorem Rows2.putL {w wr:World} {L Y q:Nat} {lf yr ds:List Nat} (h:Rows2 w wr L Y lf yr) (hl:ds.length=lf.length):Rows2 w (putL wr q L 0 ds) L Y ds yr:=
 ⟨holdsL_putL _ _ _ _ _ _ h.hl hl,h.hy.putL (.inl (Ne.symm h.ne)),h.ne,h.lL,h.lY,by simpa using h.uL,by simpa using h.uY,h.below.trans (below_putL _ _ _ _ _ h.lL)⟩
theorem Rows2.putY {w wr:World} {L Y q:Nat} {lf yr ds:List Nat} (h:Rows2 w wr L Y lf yr) (hl:ds.length=yr.length):Rows2 w (Go.Proofs.YtmijlcldmefggaaGreatDoor.putL wr q Y 0 ds) L Y lf ds:=
 ⟨h.hl.putL (.inl h.ne),holdsL_putL _ _ _ _ _ _ h.hy hl,h.ne,h.lL,h.lY,by simpa using h.uL,by simpa using h.uY,h.below.trans (below_putL _ _ _ _ _ h.lY)⟩
theorem rows2_a (w w0:World) (hb:Below w.heap.size w w0) (n m:Nat):Rows2 w (allocZ (allocZ w0 n) m) w0.heap.size (w0.heap.size+1) (List.replicate n 0) (List.replicate m 0):=by
 have hs:=hb.size
 refine ⟨(holdsL_allocZ w0 n).below (below_allocZ _ _) (by rw [size_allocZ];omega),?_,by omega,by omega,by omega,by simp only [size_allocZ];omega,by simp only [size_allocZ];omega,?_⟩
 ·have:=holdsL_allocZ (allocZ w0 n) m
  rwa [size_allocZ] at this
 ·exact hb.trans (((below_allocZ w0 n).mono (by omega)).trans ((below_allocZ _ m).mono (by rw [size_allocZ];omega)))
theorem rows2_b (w w0:World) (hb:Below w.heap.size w w0) (n m:Nat):Rows2 w (allocZ (allocZ w0 m) n) (w0.heap.size+1) w0.heap.size (List.replicate n 0) (List.replicate m 0):=by
 have h:=rows2_a w w0 hb m n
 exact ⟨h.hy,h.hl,h.ne.symm,h.lY,h.lL,h.uY,h.uL,h.below⟩
structure Rows3 (w wr:World) (L Y Q:Nat) (lf yr qs:List Nat):Prop where
 r2:Rows2 w wr L Y lf yr
 hq:HoldsL wr Q 0 qs
 nl:Q≠L
 ny:Q≠Y
 lQ:w.heap.size≤Q
 uQ:Q<wr.heap.size
theorem Rows2.with {w wr:World} {L Y:Nat} {lf yr:List Nat} (h:Rows2 w wr L Y lf yr) (M:Nat):Rows3 w (allocZ wr M) L Y wr.heap.size lf yr (List.replicate M 0):=by
 have hb:=h.below.size
 have h1:=h.uL
 have h2:=h.uY
 have ba:=below_allocZ wr M
 exact ⟨⟨h.hl.below ba h1,h.hy.below ba h2,h.ne,h.lL,h.lY,by rw [size_allocZ];omega,by rw [size_allocZ];omega,h.below.trans (ba.mono hb)⟩,holdsL_allocZ _ _,by omega,by omega,hb,by rw [size_allocZ];omega⟩
theorem Rows3.drewN {w wr:World} {L Y Q:Nat} {lf yr qs:List Nat} (h:Rows3 w wr L Y Q lf yr qs) (q:Nat):Rows3 w (wr.drewN q) L Y Q lf yr qs:=
 ⟨⟨h.r2.hl,h.r2.hy,h.r2.ne,h.r2.lL,h.r2.lY,h.r2.uL,h.r2.uY,h.r2.below.trans (below_drewN _ _)⟩,h.hq,h.nl,h.ny,h.lQ,h.uQ⟩
theorem Rows3.part {w wr:World} {L Y Q q k:Nat} {lf yr qs ds:List Nat} (h:Rows3 w wr L Y Q lf yr qs) (hk:k+ds.length≤lf.length):Rows3 w (putL wr q L k ds) L Y Q (lf.take k ++ ds ++ lf.drop (k+ds.length)) yr qs:=by
 have e:=putL_mid wr q L 0 k lf ds h.r2.hl hk
 rw [Nat.zero_add] at e
 rw [e]
 have hl:(lf.take k ++ ds ++ lf.drop (k+ds.length)).length=lf.length:=by simp;omega
 exact ⟨h.r2.putL hl,h.hq.putL (.inl h.nl),h.nl,h.ny,h.lQ,by simpa using h.uQ⟩
theorem Rows3.setL {w wr:World} {L Y Q k x:Nat} {lf yr qs:List Nat} (h:Rows3 w wr L Y Q lf yr qs) (hk:k<lf.length):Rows3 w (wr.setCell ⟨L,k,none⟩ (.int .u64 (x:Int))) L Y Q (lf.set k x) yr qs:=by
 have e:=putL_set wr 0 L 0 lf k x hk
 rw [putL_self wr L 0 lf h.r2.hl,Nat.zero_add] at e
 rw [e]
 exact ⟨h.r2.putL (by simp),h.hq.putL (.inl h.nl),h.nl,h.ny,h.lQ,by simpa using h.uQ⟩
theorem Rows3.setQ {w wr:World} {L Y Q k x:Nat} {lf yr qs:List Nat} (h:Rows3 w wr L Y Q lf yr qs) (hk:k<qs.length):Rows3 w (wr.setCell ⟨Q,k,none⟩ (.int .u64 (x:Int))) L Y Q lf yr (qs.set k x):=by
 have e:=putL_set wr 0 Q 0 qs k x hk
 rw [putL_self wr Q 0 qs h.hq,Nat.zero_add] at e
 rw [e]
 exact ⟨⟨h.r2.hl.putL (.inl (Ne.symm h.nl)),h.r2.hy.putL (.inl (Ne.symm h.ny)),h.r2.ne,h.r2.lL,h.r2.lY,by simpa using h.r2.uL,by simpa using h.r2.uY,h.r2.below.trans (below_putL _ _ _ _ _ h.lQ)⟩,holdsL_putL _ _ _ _ _ _ h.hq (by simp),h.nl,h.ny,h.lQ,by simpa using h.uQ⟩
theorem Rows3.cellL {w wr:World} {L Y Q:Nat} {lf yr qs:List Nat} (h:Rows3 w wr L Y Q lf yr qs) (k:Nat) (hk:k<lf.length):wr.cell? ⟨L,k,none⟩=some (.int .u64 ((lf[k]?.getD 0:Nat):Int))∧wr.frozen? ⟨L,k,none⟩=false:=by
 have:=h.r2.hl k hk
 rwa [Nat.zero_add] at this
theorem Rows3.cellY {w wr:World} {L Y Q:Nat} {lf yr qs:List Nat} (h:Rows3 w wr L Y Q lf yr qs) (k:Nat) (hk:k<yr.length):wr.cell? ⟨Y,k,none⟩=some (.int .u64 ((yr[k]?.getD 0:Nat):Int)):=by
 have:=(h.r2.hy k hk).1
 rwa [Nat.zero_add] at this
theorem Rows3.cellQ {w wr:World} {L Y Q:Nat} {lf yr qs:List Nat} (h:Rows3 w wr L Y Q lf yr qs) (k:Nat) (hk:k<qs.length):wr.cell? ⟨Q,k,none⟩=some (.int .u64 ((qs[k]?.getD 0:Nat):Int))∧wr.frozen? ⟨Q,k,none⟩=false:=by
 have:=h.hq k hk
 rwa [Nat.zero_add] at this
theorem sliceHm_run (b o n cp h:Nat) (hm:h≤cp) (hc:0<h) (w:World) :
  (Instr.slice 26 (.slice (some ⟨b,o,none⟩) n cp) none (some (.int .i64 (h:Int))) (some (.int .i64 (h:Int)))).run Tryz.prog w=.ok (.slice (some ⟨b,o,none⟩) h h) w:=by
 rw [run_slice_hm w 26 (some ⟨b,o,none⟩) n cp (by kernel_rfl) .i64 .i64 h h (by omega) (by omega) (by omega)]
 simp only [Int.toNat_natCast]
 rw [show (sizeOf (Tryz.prog.elem 26)).run Tryz.prog w=.ok 1 w from by kernel_rfl]
 simp only [Result.andThen,sliced,Nat.mul_one]
 rw [if_neg (by omega),Option.map_some,addr_add]
 rfl
theorem top_half {s n y1:Nat} {ys:List Nat} (hn:ys.length=n+2) (n1:B64≤2*(y1*2 ^ s)) (n2:y1*2 ^ s<B64) (hs:s≤63) (e1:ys[n+1]?.getD 0=y1):B64≤2*(raised s 0 ys)[n+1]?.getD 0:=by
 rw [raised_succ s 0 ys n (by omega),e1]
 unfold shl2
 have h2:y1<2 ^ (64 - s):=by
  have h3:=two_split s (by omega)
  rw [Nat.mul_comm] at h3
  exact Nat.lt_of_mul_lt_mul_right (by rw [h3];exact n2:y1*2 ^ s<2 ^ (64 - s)*2 ^ s)
 rw [Nat.mod_eq_of_lt h2,Nat.mul_add]
 exact Nat.le_trans n1 (Nat.le_add_right _ _)
theorem part_get {lf:List Nat} {m n j:Nat} (hj:j≤n):(partOf lf m n)[j]?.getD 0=lf[m+j]?.getD 0:=by
 unfold partOf
 rw [List.getElem?_take_of_lt (by omega),List.getElem?_drop]
theorem set_last {ds:List Nat} {j v:Nat} (h:ds.length=j+1):ds.set j v=ds.take j ++ [v]:=by
 have:=take_set_succ ds j v (by omega)
 rwa [List.take_of_length_le (by rw [List.length_set];omega)] at this
theorem seg_set {A ds C:List Nat} {m k v:Nat} (hA:A.length=m) (hk:k<ds.length):(A ++ ds ++ C).set (m+k) v=A ++ ds.set k v ++ C:=by
 rw [List.append_assoc,List.set_append_right _ _ (by omega),hA,Nat.add_sub_cancel_left,List.set_append_left _ _ hk,List.append_assoc]
theorem seg_get {A ds C:List Nat} {m k:Nat} (hA:A.length=m) (hk:k<ds.length):(A ++ ds ++ C)[m+k]?.getD 0=ds[k]?.getD 0:=by
 rw [List.append_assoc,List.getElem?_append_right (by omega),hA,Nat.add_sub_cancel_left,List.getElem?_append_left hk]
theorem seg_drop {A ds C:List Nat} {m:Nat} (hA:A.length=m):(A ++ ds ++ C).drop m=ds ++ C:=by
 rw [List.append_assoc,List.drop_append,hA,Nat.sub_self,List.drop_zero,List.drop_of_length_le (by omega),List.nil_append]
theorem seg_two {A ds es C:List Nat} {m j v:Nat} (hA:A.length=m) (hd:ds.length=j+1) (he:es.length=j) :
  (((A ++ ds ++ C).take m ++ es ++ (A ++ ds ++ C).drop (m+es.length))).set (m+j) v=A ++ (es ++ [v]) ++ C:=by
 have e1:(A ++ ds ++ C).take m=A:=by rw [List.append_assoc,← hA,List.take_left]
 have e2:(A ++ ds ++ C).drop (m+es.length)=ds.drop j ++ C:=by rw [← List.drop_drop,seg_drop hA,he,List.drop_append_of_le_length (by omega)]
 rw [e1,e2,List.append_assoc,List.append_assoc,List.set_append_right _ _ (by omega),hA,Nat.add_sub_cancel_left,List.set_append_right _ _ (by omega),he,Nat.sub_self]
 obtain ⟨z,hz⟩:∃ z,ds.drop j=[z]:=by
  have hl:(ds.drop j).length=1:=by rw [List.length_drop];omega
  match ds.drop j,hl with
  | [z],_=>exact ⟨z,rfl⟩
 rw [hz]
 simp
theorem raised_whole {s n y1:Nat} {ys:List Nat} (hs:s≤63) (dy:Dig ys) (n2:y1*2 ^ s<B64) (hn:ys.length=n+2) (e1:ys[n+1]?.getD 0=y1):val (raised s 0 ys)=val ys*2 ^ s:=by
 obtain ⟨r,hr⟩:=raised_val s 0 ys (by omega) dy (Nat.two_pow_pos _)
 have hlt:val ys*2 ^ s<B64 ^ ys.length:=by
  have h1:=val_split ys (n+1) (by omega)
  rw [val_drop ys (n+1) (by omega),e1,List.drop_of_length_le (by omega),val_nil,Nat.mul_zero,Nat.add_zero] at h1
  have h2:=val_lt (dy.take (n+1))
  rw [List.length_take,Nat.min_eq_left (by omega)] at h2
  have h1':val ys=val (ys.take (n+1))+B64 ^ (n+1)*y1:=h1
  have h3:val ys<B64 ^ (n+1)*(y1+1):=by rw [h1'];exact lt_aux h2
  have h4:(y1+1)*2 ^ s≤B64:=top_fits hs n2
  have h5:val ys*2 ^ s<B64 ^ (n+1)*(y1+1)*2 ^ s:=Nat.mul_lt_mul_of_pos_right h3 (Nat.two_pow_pos s)
  rw [hn,Nat.pow_succ]
  refine Nat.lt_of_lt_of_le h5 ?_
  rw [Nat.mul_assoc]
  exact Nat.mul_le_mul_left _ h4
 rcases Nat.eq_zero_or_pos r with h0 | h0
 ·subst h0;simpa using hr
 ·have h1:B64 ^ ys.length*1≤B64 ^ ys.length*r:=Nat.mul_le_mul_left _ h0
  exact absurd hr (lt_ne h1 hlt)
theorem divide_start {s n M y1:Nat} {xs ys:List Nat} (hs:s≤63) (hn:ys.length=n+2) (hM:xs.length=M+n+1) (dx:Dig xs) (dy:Dig ys) (ty:Trimmed ys) (n2:y1*2 ^ s<B64) (e1:ys[n+1]?.getD 0=y1)
  (hl1:(raised s 0 (xs ++ [0])).length=(xs ++ [0]).length) (hd1:Dig (raised s 0 (xs ++ [0]))):Dv (val xs*2 ^ s) (val (raised s 0 ys)) (n+2) M (raised s 0 (xs ++ [0])) (List.replicate M 0) M:=by
 have e2:val (xs ++ [0])=val xs:=by rw [val_snoc,Nat.mul_zero,Nat.add_zero]
 have hX:val (raised s 0 (xs ++ [0]))=val xs*2 ^ s:=by
  obtain ⟨r,hr⟩:=raised_val s 0 (xs ++ [0]) (by omega) (dx.append (fun d hd=>by simp at hd;subst hd;exact B64_pos)) (Nat.two_pow_pos _)
  rw [e2] at hr
  have h1:=val_lt dx
  have h2:val xs*2 ^ s<B64 ^ (xs ++ [0]).length:=by
   rw [List.length_append,List.length_singleton,Nat.pow_succ]
   refine Nat.lt_of_lt_of_le (Nat.mul_lt_mul_of_pos_right h1 (Nat.two_pow_pos s)) ?_
   refine Nat.mul_le_mul_left _ ?_
   have:=two_split s (by omega)
   exact Nat.le_of_dvd B64_pos ⟨_,this.symm⟩
  rcases Nat.eq_zero_or_pos r with h0 | h0
  ·subst h0;simpa using hr
  ·have h3:B64 ^ (xs ++ [0]).length*1≤B64 ^ (xs ++ [0]).length*r:=Nat.mul_le_mul_left _ h0
   exact absurd hr (lt_ne h3 h2)
 refine Dv.start (by rw [hl1];simp;omega) hd1 hX ?_
 rw [raised_whole hs dy n2 hn e1]
 have h1:=val_lt dx
 have h2:=val_ge_of_trimmed ty (by intro e;subst e;simp at hn)
 rw [hn,show n+2 - 1=n+1 by omega] at h2
 rw [hM,show M+n+1=n+1+M by omega,Nat.pow_add] at h1
 have h3:B64 ^ (n+1)*B64 ^ M≤val ys*B64 ^ M:=Nat.mul_le_mul_right _ h2
 have h4:val xs<val ys*B64 ^ M:=Nat.lt_of_lt_of_le h1 h3
 have h5:=Nat.mul_lt_mul_of_pos_right h4 (Nat.two_pow_pos s)
 rwa [Nat.mul_assoc,Nat.mul_comm (B64 ^ M),← Nat.mul_assoc] at h5
theorem divide_great (b o cp b2 o2 cp2 n:Nat) (xs ys:List Nat) (w:World) (hx:Digs w b o xs) (hy:Digs w b2 o2 ys) (hb:b<w.heap.size) (hb2:b2<w.heap.size) (dx:Dig xs) (dy:Dig ys) (tx:Trimmed xs) (ty:Trimmed ys)
  (hsx:xs.length≤274877906944) (hle:val ys≤val xs) (hn:ys.length=n+2) :
  Calls Tryz.prog 162 #[.slice (some ⟨b,o,none⟩) xs.length cp,.slice (some ⟨b2,o2,none⟩) (n+2) cp2] w (RetDivide w (val xs / val ys) (val xs % val ys)):=by
 have hlen:ys.length≤xs.length:=by
  rcases Nat.lt_or_ge xs.length ys.length with h | h
  ·have:=val_lt_of_length dx ty h;omega
  ·exact h
 have HC:=hid (cmp_callsN xs.length (n+2) b o cp b2 o2 cp2 xs ys w hx hy dx dy tx ty (by omega) rfl hn)
 have HV:Hid (0≤cmpN (val xs) (val ys)):=by
  show 0≤_
  rcases Nat.lt_or_ge (val ys) (val xs) with h | h
  ·rw [cmpN_gt h];omega
  ·rw [show val xs=val ys by omega,cmpN_eq];omega
 obtain ⟨cc,hcc⟩:∃ c,cmpN (val xs) (val ys)=c:=⟨_,rfl⟩
 obtain ⟨y1,hy1⟩:∃ y,ys[n+1]?.getD 0=y:=⟨_,rfl⟩
 rw [hcc] at HC HV
 have hc0:0≤cc:=HV.out
 have cy:w.cell? ⟨b2,o2+(n+1),none⟩=some (.int .u64 (y1:Int)):=by rw [hy (n+1) (by omega),hy1]
 have hy1b:y1<B64:=by rw [← hy1];exact dy.getD _
 have hy1p:0<y1:=by
  have:=ty (by intro e;subst e;simp at hn)
  rw [List.getLast_eq_getElem] at this
  rw [← hy1,List.getElem?_eq_getElem (by omega)]
  simp only [Option.getD_some]
  simp only [hn] at this
  exact Nat.pos_of_ne_zero this
 obtain ⟨s,hs,hbl,hn1,hn2⟩:=bitLen_norm y1 hy1p hy1b
 have HLZ:=hid (LZ_calls y1 s hy1b hbl)
 have hmk1:=makeN_run (xs.length+1) (by omega)
 rw [show ((xs.length+1:Nat):Int)=(xs.length:Int)+1 from by omega] at hmk1
 have hmk2:=makeN_run (n+2) (by omega)
 rw [show ((n+2:Nat):Int)=(n:Int)+2 from by omega] at hmk2
 have hN:n+2≤xs.length:=by omega
 have HX:=hid hx
 have HY:=hid hy
 have HN:=hid hn
 have HLE:=hid hle
 have HY1:=hid hy1
 have N1:=hid hn1
 have N2:=hid hn2
 clear hx hy hcc HV hy1 hy1b hy1p hbl hn1 hn2 hle hlen hn
 go_enter Tryz.func162,Tryz.ntmps162
 go_upto_region 5 with (first | (go_at_call 113;refine HC.out.mono ?_;rintro e w' ⟨rfl,q,rfl⟩) | (go_at_call 213;refine (HLZ.out _).mono ?_;rintro e w' ⟨rfl,rfl⟩))
 go_cut [8,9] (fun lv bv wx=>∃ L Y:Nat,lv=.slice (some ⟨L,0,none⟩) (xs.length+1) (xs.length+1)∧bv=.slice (some ⟨Y,0,none⟩) (n+2) (n+2)∧Rows2 w wx L Y (List.replicate (xs.length+1) 0) (List.replicate (n+2) 0))
 case first =>
  go_region
  all_goals (go_wp2_with fail)
  all_goals go_meet
  ·exact ⟨w.heap.size,_,rfl,rfl,by rw [size_allocZ];exact rows2_a w (w.drewN (q+1)) (below_drewN _ _) _ _⟩
  ·exact ⟨_,w.heap.size,rfl,rfl,by rw [size_allocZ];exact rows2_b w (w.drewN (q+1)) (below_drewN _ _) _ _⟩
 case rest =>
  obtain ⟨L,Y,rfl,rfl,hR⟩:=hcut
  have hcp1:=copyN_run 3 wc L 0 (xs.length+1) (xs.length+1) b o cp _ xs hR.hl (HX.out.below hR.below hb) (by simp) (by omega)
  have e1:(List.replicate (xs.length+1) 0).drop xs.length=[0]:=by rw [List.drop_replicate,Nat.add_sub_cancel_left];rfl
  rw [e1] at hcp1
  have R1:Rows2 w (putL wc 0 L 0 (xs ++ [0])) L Y (xs ++ [0]) (List.replicate (n+2) 0):=hR.putL (by simp)
  have hcp2:=copyN_run 3 (putL wc 0 L 0 (xs ++ [0])) Y 0 (n+2) (n+2) b2 o2 cp2 _ ys R1.hy (HY.out.below R1.below hb2) (by simp) (by rw [HN.out];exact Nat.le_refl _)
  have e2:(List.replicate (n+2) 0).drop ys.length=([]:List Nat):=by rw [HN.out,List.drop_replicate,Nat.sub_self];rfl
  rw [e2,List.append_nil,HN.out] at hcp2
  have R2:=hid (show Rows2 w (putL (putL wc 0 L 0 (xs ++ [0])) 0 Y 0 ys) L Y (xs ++ [0]) ys from R1.putY (by rw [HN.out];simp))
  obtain ⟨M,hM⟩:∃ M,xs.length=M+n+1:=⟨xs.length - n - 1,by omega⟩
  have hmk3:=makeN_run M (by omega)
  rw [show ((M:Nat):Int)=(xs.length:Int) - ((n:Int)+2)+1 from by omega] at hmk3
  have HM:=hid hM
  have hMb:M≤274877906944:=by omega
  clear e1 e2 R1 hR hM hmk1 hmk2 HC HLZ cy
  go_wp2_with fail
  refine (raise_calls _ s L 0 _ (xs ++ [0]) _ hs R2.out.hl (dx.append (fun d hd=>by simp at hd;subst hd;exact B64_pos)) (by simp) (by simp;omega) (by simp)).mono ?_
  rintro e w' ⟨d1,q1,rfl,rfl,hl1,hd1,rfl⟩
  have R3:=R2.out.putL (q:=q1) hl1
  generalize putL (putL (putL wc 0 L 0 (xs ++ [0])) 0 Y 0 ys) q1 L 0 (raised s 0 (xs ++ [0]))=W3 at R3 ⊢
  have HR3:=hid R3
  have HD1:=hid hd1
  have HL1:=hid hl1
  clear R2 R3 hd1 hl1 hcp1 hcp2
  go_wp2_with fail
  refine (raise_calls _ s Y 0 _ ys _ hs HR3.out.hy dy (by rw [HN.out];omega) (by rw [HN.out];omega) HN.out).mono ?_
  rintro e w' ⟨d2,q2,rfl,rfl,hl2,hd2,rfl⟩
  have R4:=HR3.out.putY (q:=q2) hl2
  generalize putL W3 q2 Y 0 (raised s 0 ys)=W4 at R4 ⊢
  have HR4:=hid R4
  have HD2:=hid hd2
  have HL2:=hid hl2
  clear HR3 R4 hd2 hl2
  have HR5:=hid (HR4.out.with M)
  clear HR4
  have hVlt:val (raised s 0 ys)<B64 ^ (n+2):=by have:=val_lt HD2.out;rwa [HL2.out,HN.out] at this
  have HDV:Hid (Dv (val xs*2 ^ s) (val (raised s 0 ys)) (n+2) M (raised s 0 (xs ++ [0])) (List.replicate M 0) M):=divide_start hs HN.out HM.out dx dy ty N2.out HY1.out HL1.out HD1.out
  have HV2:=hid hVlt
  clear hVlt
  go_wp2_with fail
  go_loopw [10] (fun iv wr=>∃ (k:Nat) (lf qs:List Nat),iv=.int .i64 ((k:Int) - 1)∧Rows3 w wr L Y W4.heap.size lf (raised s 0 ys) qs∧Dv (val xs*2 ^ s) (val (raised s 0 ys)) (n+2) M lf qs k) (fun iv _=>(intOf iv+1).toNat)
  case atStart=>exact ⟨M,_,_,rfl,HR5.out,HDV.out⟩
  case round =>
   clear HR5 HDV
   obtain ⟨k,lf,qs,rfl,hR,hD⟩:=hrel
   by_cases h0:0<k
   ·obtain ⟨m,rfl⟩:∃ m,k=m+1:=⟨k - 1,by omega⟩
    have hkM:=hD.kM
    have hll:=hD.ll
    obtain ⟨p1,p2,p3,p4,p5⟩:=hD.part HV2.out
    have hg:=guess_part p1 (show (raised s 0 ys).length=n+2 by rw [HL2.out,HN.out]) (by omega) p2 HD2.out (top_half HN.out N1.out N2.out hs HY1.out) p5
    rw [part_get (Nat.le_refl _),part_get (by omega),part_get (by omega),show n+2 - 1=n+1 from rfl,show n+2 - 2=n from rfl] at hg
    have c1:=hR.cellL (m+(n+2)) (by omega)
    have c2:=(hR.cellL (m+(n+1)) (by omega)).1
    have c3:=(hR.cellL (m+n) (by omega)).1
    have c4:=hR.cellY (n+1) (by rw [HL2.out,HN.out];omega)
    have c5:=hR.cellY n (by rw [HL2.out,HN.out];omega)
    have gg:=fun (W:World)=>guess_calls (lf[m+(n+2)]?.getD 0) (lf[m+(n+1)]?.getD 0) (lf[m+n]?.getD 0) ((raised s 0 ys)[n+1]?.getD 0) ((raised s 0 ys)[n]?.getD 0) (hD.dl.getD _) (hD.dl.getD _) (HD2.out.getD _) (HD2.out.getD _)
     (by have:=top_half HN.out N1.out N2.out hs HY1.out;unfold B64 at this;omega) W
    obtain ⟨d0,ed0⟩:∃ u,guessD (lf[m+(n+2)]?.getD 0) (lf[m+(n+1)]?.getD 0) (lf[m+n]?.getD 0) ((raised s 0 ys)[n+1]?.getD 0) ((raised s 0 ys)[n]?.getD 0)=u:=⟨_,rfl⟩
    obtain ⟨x1,ex1⟩:∃ u,lf[m+(n+2)]?.getD 0=u:=⟨_,rfl⟩
    obtain ⟨x2,ex2⟩:∃ u,lf[m+(n+1)]?.getD 0=u:=⟨_,rfl⟩
    obtain ⟨x3,ex3⟩:∃ u,lf[m+n]?.getD 0=u:=⟨_,rfl⟩
    obtain ⟨x4,ex4⟩:∃ u,(raised s 0 ys)[n+1]?.getD 0=u:=⟨_,rfl⟩
    obtain ⟨x5,ex5⟩:∃ u,(raised s 0 ys)[n]?.getD 0=u:=⟨_,rfl⟩
    rw [ex1,ex2,ex3,ex4,ex5] at ed0 gg hg
    rw [ex1] at c1
    rw [ex2] at c2
    rw [ex3] at c3
    rw [ex4] at c4
    rw [ex5] at c5
    rw [ed0] at gg hg
    obtain ⟨c1,f1⟩:=c1
    have hMx:=HM.out
    have hsl1:=sliceLhm_run L 0 (xs.length+1) (xs.length+1) m (m+(n+2)+1) (m+(n+2)+1) (by omega) (by omega) (by omega) (by omega)
    rw [Nat.zero_add,show m+(n+2)+1 - m=n+3 by omega,show ((m+(n+2)+1:Nat):Int)=(m:Int)+((n:Int)+2)+1 from by omega] at hsl1
    have hsl2:=sliceHm_run L m (n+3) (n+3) (n+2) (by omega) (by omega)
    rw [show ((n+2:Nat):Int)=(n:Int)+2 from by omega] at hsl2
    have HGG:=hid gg
    have HG:=hid hg
    have EX1:=hid ex1
    have P1:=hid p1
    have P2:=hid p2
    have HR:=hid hR
    have HDD:=hid hD
    have HLL:=hid hll
    have hnb:n≤274877906944:=by omega
    have i1:(0:Int)≤(n:Int)+2:=by omega
    have i2:(n:Int)+2<(n:Int)+3:=by omega
    have i3:((n:Int)+2).toNat=n+2:=by omega
    have i4:((n:Int)+2 - 1).toNat=n+1:=by omega
    have i5:((n:Int)+2 - 2).toNat=n:=by omega
    have i6:(0:Int)≤(n:Int)+2 - 1:=by omega
    have i7:(0:Int)≤(n:Int)+2 - 2:=by omega
    have i8:(n:Int)+2 - 1<(n:Int)+3:=by omega
    have i9:(n:Int)+2 - 2<(n:Int)+3:=by omega
    have i10:(n:Int)+2 - 1<(n:Int)+2:=by omega
    have i11:(n:Int)+2 - 2<(n:Int)+2:=by omega
    clear gg hg ex1 ex2 ex3 ex4 ex5 ed0 p1 p2 p3 p4 p5 hR hD hll h0 hMx
    go_wp2_with fail
    go_quiet ((go_at_call 218;exact Calls.quiet_of (HGG.out _)))
    clear i4 i5 i6 i7 i8 i9 i10 i11 c1 c2 c3 c4 c5 f1
    go_wp2_with fail
    have hq:=HR.out.drewN nq
    have hpart:HoldsL (wr.drewN nq) L m (partOf lf m (n+2)):=by
     have:=(hq.r2.hl.drop m).take (n+2+1)
     rwa [Nat.zero_add] at this
    refine (decreaseTimes_callsN _ _ L m _ Y 0 _ d0 (partOf lf m (n+2)) (raised s 0 ys) _ hpart hq.r2.hy.digs (.inl (Ne.symm hq.r2.ne)) (by rw [P1.out,HL2.out,HN.out];omega) P2.out HD2.out HG.out.2.2 (by rw [P1.out];omega) P1.out (by rw [HL2.out,HN.out])).mono ?_
    rintro e w' ⟨ds,c,q3,rfl,rfl,hdl,hdd,hT⟩
    rw [P1.out] at hdl
    have hkM:=HDD.out.kM
    have htk:(lf.take m).length=m:=by rw [List.length_take,HLL.out];omega
    have R6:=hq.part (q:=q3) (k:=m) (ds:=ds) (by rw [HLL.out];omega)
    generalize putL (wr.drewN nq) q3 L m ds=W6 at R6 ⊢
    have hx1:ds[n+2]?.getD 0=x1:=by
     rw [hT.1.get (n+2) (by rw [HL2.out,HN.out];omega),part_get (Nat.le_refl _),EX1.out]
    have c6:=R6.cellL (m+(n+2)) (by simp;rw [HLL.out];omega)
    rw [seg_get htk (by omega),hx1] at c6
    obtain ⟨c6,f6⟩:=c6
    have c7:=R6.cellQ m (by rw [HDD.out.lq];omega)
    obtain ⟨z7,ez7⟩:∃ u,qs[m]?.getD 0=u:=⟨_,rfl⟩
    rw [ez7] at c7
    obtain ⟨c7,f7⟩:=c7
    have hsum:val (ds.take (n+2))+d0*val (raised s 0 ys)+x1*B64 ^ (n+2)=val (partOf lf m (n+2))+c*B64 ^ (n+2):=by
     have h1:=hT.2.2
     rw [HL2.out,HN.out,List.take_of_length_le (show (raised s 0 ys).length≤n+2 by rw [HL2.out,HN.out];exact Nat.le_refl _)] at h1
     have h2:=val_split (partOf lf m (n+2)) (n+2) (by rw [P1.out];omega)
     rw [val_drop (partOf lf m (n+2)) (n+2) (by rw [P1.out];omega),part_get (Nat.le_refl _),EX1.out,List.drop_of_length_le (by rw [P1.out];omega),val_nil,Nat.mul_zero,Nat.add_zero] at h2
     rw [h2,show x1+0=x1 from rfl,Nat.mul_comm (B64 ^ (n+2)) x1]
     omega
    have hR0:val (ds.take (n+2))<B64 ^ (n+2):=by
     have:=val_lt (hdd.take (n+2))
     rwa [List.length_take,Nat.min_eq_left (by omega)] at this
    by_cases hlt:x1<c
    ·have d1:decide (x1<c)=true:=decide_eq_true hlt
     have hdp:1≤d0:=digit_pos hR0 hsum hlt
     have hdl3:=HG.out.2.2
     have w2:IntKind.u64.wrap ((d0:Int) - 1)=((d0 - 1:Nat):Int):=by rw [show ((d0 - 1:Nat):Int)=(d0:Int) - 1 by omega];exact IntWalk.u64_in _ (by unfold B64 at hdl3;omega)
     obtain ⟨d9,ed9⟩:∃ u,d0 - 1=u:=⟨_,rfl⟩
     rw [ed9] at w2
     have ED9:=hid ed9
     clear hdp hdl3 ed9
     have HSUM:=hid hsum
     have HR0:=hid hR0
     have R6h:=hid R6
     have HDL:=hid hdl
     have HLT:=hid hlt
     have HTK:=hid htk
     have hcb:=hid hT.2.1
     have HX1:=hid hx1
     have EZ7:=hid ez7
     clear hsum hR0 R6 hdl hlt htk hT hx1 ez7 hq hpart hkM
     go_wp2_with fail
     have hI:HoldsL W6 L m (ds.take (n+2)):=by
      have:=(R6h.out.r2.hl.drop m).take (n+2)
      rw [Nat.zero_add,seg_drop HTK.out,List.take_append_of_le_length (by rw [HDL.out];omega)] at this
      exact this
     refine (increase_callsN _ _ L m _ Y 0 _ (ds.take (n+2)) (raised s 0 ys) _ hI R6h.out.r2.hy.digs (.inl (Ne.symm R6h.out.r2.ne)) (by rw [List.length_take,HDL.out,HL2.out,HN.out];omega) (hdd.take _) HD2.out (by rw [List.length_take,HDL.out];omega) (by rw [List.length_take,HDL.out];omega) (by rw [HL2.out,HN.out])).mono ?_
     rintro e w' ⟨es,c2,q4,rfl,rfl,hel,hed,hev⟩
     have hel':es.length=n+2:=by rw [hel,List.length_take,HDL.out];omega
     have hV2:=HV2.out
     have hE:val es<B64 ^ (n+2):=by have:=val_lt hed;rwa [hel'] at this
     have hev':val es+c2*B64 ^ (n+2)=val (ds.take (n+2))+val (raised s 0 ys):=by
      rw [← hev,List.length_take,HDL.out,Nat.min_eq_left (by omega)]
     have hc2:c2≤1:=by
      have h1:=HR0.out
      rcases Nat.lt_or_ge 1 c2 with h2 | h2
      ·have h3:2*B64 ^ (n+2)≤c2*B64 ^ (n+2):=Nat.mul_le_mul_right _ h2
       omega
      ·exact h2
     obtain ⟨g1,g2,g3,g4,g5⟩:=digit_less HR0.out hE HSUM.out hev' HG.out.2.1 HLT.out hc2
     have R7:=R6h.out.part (q:=q4) (k:=m) (ds:=es) (by simp;rw [HLL.out];omega)
     generalize putL W6 q4 L m es=W7 at R7 ⊢
     have hll7:m+(n+2)<((lf.take m ++ ds ++ lf.drop (m+ds.length)).take m ++ es ++ (lf.take m ++ ds ++ lf.drop (m+ds.length)).drop (m+es.length)).length:=by
      simp;rw [HLL.out];omega
     have c8:=R7.cellL (m+(n+2)) hll7
     have hz8:((lf.take m ++ ds ++ lf.drop (m+ds.length)).take m ++ es ++ (lf.take m ++ ds ++ lf.drop (m+ds.length)).drop (m+es.length))[m+(n+2)]?.getD 0=ds[n+2]?.getD 0:=by
      rw [List.getElem?_append_right (by simp;rw [HLL.out];omega),List.getElem?_drop]
      have e1:((lf.take m ++ ds ++ lf.drop (m+ds.length)).take m ++ es).length=m+(n+2):=by simp;rw [HLL.out];omega
      rw [e1,Nat.sub_self,Nat.add_zero,hel',seg_get HTK.out (by rw [HDL.out];omega)]
     rw [hz8,HX1.out] at c8
     obtain ⟨c8,f8⟩:=c8
     have R8:=R7.setL (k:=m+(n+2)) (x:=0) hll7
     rw [seg_two HTK.out HDL.out hel'] at R8
     rw [ED9.out] at g4
     have R9:=R8.setQ (k:=m) (x:=d9) (by rw [HDD.out.lq];omega)
     have hDv:=HDD.out.step (d:=d9) (ps:=es ++ [0]) HV2.out (by simp [hel']) (hed.append (fun d hd=>by simp at hd;subst hd;exact B64_pos)) (by have:=HG.out.2.2;have:=ED9.out;omega) (by rw [val_snoc,Nat.mul_zero,Nat.add_zero];exact g4) (by rw [val_snoc,Nat.mul_zero,Nat.add_zero];exact g5)
     have hel3:(es ++ [0]).length=ds.length:=by simp [hel',HDL.out]
     rw [hel3] at hDv
     have w1:IntKind.u64.wrap ((c:Int) - (c2:Int))=(x1:Int):=by
      have:=hcb.out
      rw [show (c:Int) - (c2:Int)=(x1:Int) by omega]
      exact IntWalk.u64_in _ (by unfold B64 at this;omega)
     have w3:(x1:Int) - (x1:Int)=0:=by omega
     have R9h:=hid R9
     have hDvh:=hid hDv
     have hc7:W7.cell? ⟨W4.heap.size,m,none⟩=some (.int .u64 (z7:Int)):=by
      have:=(R7.cellQ m (by rw [HDD.out.lq];omega)).1
      rw [this,EZ7.out]
     have hf7:W7.frozen? ⟨W4.heap.size,m,none⟩=false:=(R7.cellQ m (by rw [HDD.out.lq];omega)).2
     have hnl:¬ L=W4.heap.size:=Ne.symm R7.nl
     have hnl2:¬ W4.heap.size=L:=R7.nl
     clear R7 R8 R9 hDv g1 g2 g3 g4 g5 hel3 hz8 hll7 hel hel' hev hev' hE hI hc2 hV2 c6 f6 c7 f7
     go_wp2
     go_roundw
     case rel=>exact ⟨m,_,_,by go_num,R9h.out,hDvh.out⟩
     case measure=>simp [intOf]
    ·have d1:decide (x1<c)=false:=decide_eq_false hlt
     obtain ⟨g3,g4,g5⟩:=digit_ok HV2.out hsum HG.out.1 (by omega)
     have hll7:m+(n+2)<(lf.take m ++ ds ++ lf.drop (m+ds.length)).length:=by simp;rw [HLL.out];omega
     have R8:=R6.setL (k:=m+(n+2)) (x:=0) hll7
     rw [seg_set htk (by omega),set_last (show ds.length=n+2+1 by omega)] at R8
     have R9:=R8.setQ (k:=m) (x:=d0) (by rw [HDD.out.lq];omega)
     have hDv:=HDD.out.step (d:=d0) (ps:=ds.take (n+2) ++ [0]) HV2.out (by simp [hdl]) ((hdd.take _).append (fun d hd=>by simp at hd;subst hd;exact B64_pos)) HG.out.2.2 (by rw [val_snoc,Nat.mul_zero,Nat.add_zero];exact g4) (by rw [val_snoc,Nat.mul_zero,Nat.add_zero];exact g5)
     have hel3:(ds.take (n+2) ++ [0]).length=ds.length:=by simp [hdl]
     rw [hel3] at hDv
     have w3:IntKind.u64.wrap ((x1:Int) - (c:Int))=0:=by rw [show (x1:Int) - (c:Int)=0 by omega];rfl
     have R9h:=hid R9
     have hDvh:=hid hDv
     have hnl:¬ L=W4.heap.size:=Ne.symm R6.nl
     have hnl2:¬ W4.heap.size=L:=R6.nl
     have EZ7:=hid ez7
     clear R6 R8 R9 hDv g3 g4 g5 hel3 hll7 hsum hR0 hdl hlt htk hT hx1 ez7 hq hpart hkM
     go_wp2
     go_roundw
     case rel=>exact ⟨m,_,_,by go_num,R9h.out,hDvh.out⟩
     case measure=>simp [intOf]
   ·obtain rfl:k=0:=by omega
    obtain ⟨hv1,hv2⟩:=hD.last
    have hll:=hD.ll
    have hlq:=hD.lq
    have hrv:val (raised s 0 ys)=val ys*2 ^ s:=raised_whole hs dy N2.out HN.out HY1.out
    rw [hrv] at hv1 hv2
    obtain ⟨u1,u2⟩:=unshift (Nat.two_pow_pos s) hv1 hv2
    have HU1:=hid u1
    have HU2:=hid u2
    have HR:=hid hR
    have HDD:=hid hD
    have HLL:=hid hll
    have HLQ:=hid hlq
    have hMx:=HM.out
    have HLE2:Hid (lf.length=xs.length+1):=by show _=_;omega
    have hMz:Hid (M≤274877906944):=hMb
    clear hv1 hv2 hll hlq hrv u1 u2 hR hD h0 hMx
    go_wp2_with fail
    refine (lower_calls _ s L 0 _ lf _ hs HR.out.r2.hl HDD.out.dl (by rw [HLE2.out];omega) HLE2.out).mono ?_
    rintro e w' ⟨ds,q3,rfl,rfl,hdl,hdd,hdv⟩
    have R6:=HR.out.r2.putL (q:=q3) hdl
    have hQ6:HoldsL (putL wr q3 L 0 ds) W4.heap.size 0 qs:=HR.out.hq.putL (.inl HR.out.nl)
    have hu6:W4.heap.size<(putL wr q3 L 0 ds).heap.size:=by rw [size_putL];exact HR.out.uQ
    generalize putL wr q3 L 0 ds=W6 at R6 hQ6 hu6 ⊢
    have R6h:=hid R6
    have hQh:=hid hQ6
    have huh:=hid hu6
    have hdlh:=hid hdl
    have hdvh:=hid hdv
    clear R6 hQ6 hu6 hdl hdv
    go_wp2_with fail
    refine (trim_callsN M W4.heap.size 0 M qs _ hQh.out.digs (by rw [HLQ.out];have:=hMz.out;omega) (by rw [HLQ.out];exact Nat.le_refl _) HLQ.out).mono ?_
    rintro e w' ⟨t1,rfl,ht1,rfl⟩
    have HT1:=hid ht1
    clear ht1
    go_wp2_with fail
    refine (trim_callsN (xs.length+1) L 0 (xs.length+1) ds _ R6h.out.hl.digs (by rw [hdlh.out,HLE2.out];omega) (by rw [hdlh.out,HLE2.out];exact Nat.le_refl _) (by rw [hdlh.out,HLE2.out])).mono ?_
    rintro e w' ⟨t2,rfl,ht2,rfl⟩
    have HT2:=hid ht2
    clear ht2
    go_wp2
    go_ret2
    refine ⟨_,_,rfl,?_,?_,R6h.out.below⟩
    ·exact NatV.mk huh.out HDD.out.dq HT1.out HU1.out hQh.out.digs
    ·exact NatV.mk R6h.out.uL hdd HT2.out (by rw [hdvh.out,HU2.out]) R6h.out.hl.digs
end
end Go.Proofs.YtmijlcldmefggaaGreatDoor
