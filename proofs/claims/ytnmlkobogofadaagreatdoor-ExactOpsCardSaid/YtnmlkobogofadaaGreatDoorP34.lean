/- What the proof rests on, part 34. -/
import Derived.Test.YtnmlkobogofadaaGreatDoorP32
import Derived.Test.YtnmlkobogofadaaGreatDoorP33
import Derived.Test.YtnmlkobogofadaaGreatDoorP21
import Derived.Test.YtnmlkobogofadaaGreatDoorP17
namespace Go.Proofs.YtnmlkobogofadaaGreatDoor
set_option maxRecDepth 100000
set_option maxHeartbeats 80000000
namespace Rx
open Go.RowKit
def kR (β:Nat→Rat):Prop:=β 0=mkRat (-5) 4∧β 1=mkRat 3 2∧β 2=mkRat 355 113∧β 3=mkRat 22 7∧β 4=mkRat 11 8∧β 5=mkRat 1 2
def uy (s:ByteArray):Option Nat:=
 if s.data.toList=[45,49,46,50,53,48] then some 0 else if s.data.toList=[54,47,52] then some 1 else
 if s.data.toList=[51,53,53,47,49,49,51] then some 2 else if s.data.toList=[49,47,50] then some 5 else none
def xB:List (RE×List UInt8):=[(.v 0,[45,53,47,52]),(.v 1,[51,47,50]),(.v 3,[50,50,47,55]),(.v 4,[49,49,47,56]),(tC (.v 5),[51,47,53]),(tS (.v 5),[52,47,53]),(.add (.v 0) (.v 1),[49,47,52]),(.mul (.v 0) (.v 1),[45,49,53,47,56])]
section
variable (β:Nat→Rat)
def wY:Con (SQ β) where
 fn:=16
 app:=fun _ b args=>match args with
  | [.e (.s (.st s))]=>match uy s with
   | some i=>some (.t [.a (aS b),.s (.it .i64 0)],[.q b (.v i) 1])
   | none=>none
  | _=>none
def wX:Con (SQ β) where
 fn:=93
 app:=fun _ b args=>match args with
  | [.e (.s (.st s))]=>match uy s with
   | some i=>some (.e (.a (aS b)),[.q b (.v i) 1])
   | none=>none
  | _=>none
def wW:Con (SQ β) where
 fn:=55
 app:=fun db b args=>match args with
  | [.e (.a x),.e (.s (.it .i64 7))]=>match fD db x with
   | some (.v 2,_)=>some (.t [.a (aS b),.s (.it .i64 0)],[.q b (.v 3) 1])
   | _=>none
  | _=>none
def aRoot:Con (SQ β) where
 fn:=56
 app:=fun db b args=>match args with
  | [.e (.a x),.e (.s (.it .i64 3))]=>match fD db x with
   | some (.c 2,_)=>some (.t [.a (aS b),.s (.it .i64 0)],[.q b (.v 4) 1])
   | _=>none
  | _=>none
def aIs:Con (SQ β) where
 fn:=92
 app:=fun db _ args=>match args with
  | [.e (.a x),.e (.s (.st s))]=>match fD db x with
   | some (e,k)=>if decide (k≤K0) && xB.any (fun p=>p.1.beq e && decide (p.2=s.data.toList)) then some (.e (.s (.bl true)),[]) else none
   | none=>none
  | _=>none
end
section
variable {β:Nat→Rat}
theorem Dh (h:kR β) {s:ByteArray} {i:Nat} (ht:uy s=some i):Fits 1 (β i)∧∀ W,EV W→Calls Tryz.prog 16 #[.string s] W (eU W (β i) 0):=by
 obtain ⟨h0,h1,h2,-,-,h5⟩:=h
 obtain ⟨⟨l⟩⟩:=s
 unfold uy at ht
 simp only at ht
 split at ht
 ·rename_i hl
  cases ht;subst hl;rw [h0]
  exact ⟨jK (by decide +kernel) (by decide +kernel),fun W hE=>QD W hE⟩
 split at ht
 ·rename_i hl
  cases ht;subst hl;rw [h1]
  exact ⟨jK (by decide +kernel) (by decide +kernel),fun W hE=>p64 W hE⟩
 split at ht
 ·rename_i hl
  cases ht;subst hl;rw [h2]
  exact ⟨jK (by decide +kernel) (by decide +kernel),fun W hE=>QG W hE⟩
 split at ht
 ·rename_i hl
  cases ht;subst hl;rw [h5]
  exact ⟨jK (by decide +kernel) (by decide +kernel),fun W hE=>p12 W hE⟩
 ·cases ht
theorem IC (h:kR β):∀ p∈xB,gJ (p.1.ev β)=p.2:=by
 obtain ⟨h0,h1,h2,h3,h4,h5⟩:=h
 have c1:((1:Int):Rat)=1:=rfl
 unfold xB
 simp only [List.forall_mem_cons,List.not_mem_nil,false_imp_iff,implies_true,and_true,RE.ev,tC,tS,h0,h1,h3,h4,h5,c1]
 exact ⟨by decide +kernel,by decide +kernel,by decide +kernel,by decide +kernel,by decide +kernel,by decide +kernel,by decide +kernel,by decide +kernel⟩
theorem Hz (h:kR β):(wY β).Ok Tryz.prog (SQ β) EV:=by
 intro db b args res new ha ρ W hf hE
 simp only [wY] at ha
 split at ha
 ·split at ha
  ·rename_i i ht
   cases ha
   obtain ⟨h1,h2⟩:=Dh h ht
   exact mD (e:=.v i) (h2 W hE) h1
  ·cases ha
 ·cases ha
theorem Hw (h:kR β):(wX β).Ok Tryz.prog (SQ β) EV:=by
 intro db b args res new ha ρ W hf hE
 simp only [wX] at ha
 split at ha
 ·rename_i s
  split at ha
  ·rename_i i ht
   cases ha
   obtain ⟨h1,h2⟩:=Dh h ht
   obtain ⟨⟨l⟩⟩:=s
   exact qV (e:=.v i) (OL l (β i) 0 W (hid fun W' hb=>h2 W' (Env.below hE hb (Nat.le_refl _)))) h1
  ·cases ha
 ·cases ha
theorem Hu (h:kR β):(wW β).Ok Tryz.prog (SQ β) EV:=by
 intro db b args res new ha ρ W hf hE
 simp only [wW] at ha
 split at ha
 ·split at ha
  ·rename_i hx
   cases ha
   obtain ⟨⟨h1,h2⟩,-⟩:=gy hx hf
   rw [show (RE.v 2).ev β=mkRat 355 113 from h.2.2.1] at h1
   have hv:(RE.v 3).ev β=mkRat 22 7:=h.2.2.2.1
   exact mD (e:=.v 3) (by rw [hv];exact Oq _ W h1 hE) (by rw [hv];exact jK (by decide +kernel) (by decide +kernel))
  ·cases ha
 ·cases ha
theorem H6 (h:kR β):(aRoot β).Ok Tryz.prog (SQ β) EV:=by
 intro db b args res new ha ρ W hf hE
 simp only [aRoot] at ha
 split at ha
 ·split at ha
  ·rename_i hx
   cases ha
   obtain ⟨⟨h1,h2⟩,-⟩:=gy hx hf
   have hv:(RE.v 4).ev β=mkRat 11 8:=h.2.2.2.2.1
   exact mD (e:=.v 4) (by rw [hv];exact Sj _ W h1 hE) (by rw [hv];exact jK (by decide +kernel) (by decide +kernel))
  ·cases ha
 ·cases ha
theorem Hq (h:kR β):(aIs β).Ok Tryz.prog (SQ β) EV:=by
 intro db b args res new ha ρ W hf hE
 simp only [aIs] at ha
 split at ha
 ·rename_i x s
  split at ha
  ·rename_i e k hx
   split at ha
   ·rename_i hh
    simp only [Bool.and_eq_true,decide_eq_true_eq] at hh
    cases ha
    obtain ⟨⟨h1,h2⟩,-⟩:=gy hx hf
    obtain ⟨p,hp,hq⟩:=List.any_eq_true.1 hh.2
    simp only [Bool.and_eq_true,decide_eq_true_eq] at hq
    have ht:=IC h p hp
    rw [RE.beq_eq hq.1,hq.2] at ht
    obtain ⟨⟨l⟩⟩:=s
    have hc:=N7 l _ _ k W h1 hh.1 h2 hE
    rw [show gJ (e.ev β)=l from ht,beq_self_eq_true] at hc
    exact oU hc rfl
   ·cases ha
  ·cases ha
 ·cases ha
def aw (β:Nat→Rat):List (Con (SQ β)):=wY β :: wX β :: wW β :: aRoot β :: aIs β :: vk β :: cq β {}
theorem IG (β:Nat→Rat):isB true (iZ Tryz.prog (SQ β) (HQ β {} (iw β)) (aw β) 1 15 [] [] 0)=true:=by kernel_rfl
theorem IE {W:World} (hE:EV W):Calls Tryz.prog 15 #[] W (dh W (.bool true)):=by
 obtain ⟨β,h⟩:∃ β,kR β:=⟨bet [mkRat (-5) 4,mkRat 3 2,mkRat 355 113,mkRat 22 7,mkRat 11 8,mkRat 1 2],rfl,rfl,rfl,rfl,rfl,rfl⟩
 refine FQ (β:=β) (ρ:=ev []) (args:=[]) (fs:=[]) (cons:=aw _) ?_ (IG _) hE (fun g hg=>by cases hg)
 unfold aw
 simp only [List.forall_mem_cons]
 exact ⟨Hz h,Hw h,Hu h,H6 h,Hq h,Dt,rM (iw _)⟩
end
section
variable (β:Nat→Rat) (h:Hint)
def uT:Con (SQ β) where
 fn:=15
 app:=fun _ _ args=>match args with
  | []=>some (.e (.s (.bl true)),[])
  | _=>none
def cl:List (Con (SQ β)):=uT β :: (cq β h ++ cl1 β)
end
theorem Jo {β:Nat→Rat}:(uT β).Ok Tryz.prog (SQ β) EV:=by
 intro db b args res new ha ρ W hf hE
 simp only [uT] at ha
 split at ha
 ·cases ha
  exact oU (IE hE) rfl
 ·cases ha
theorem Jc {β:Nat→Rat} {h:Hint} (ok:h.Ok β):∀ c∈cl β h,c.Ok Tryz.prog (SQ β) EV:=fun c hc=>by
 rcases List.mem_cons.1 hc with rfl | hc
 ·exact Jo
 rcases List.mem_append.1 hc with hc | hc
 ·exact rM ok c hc
 ·exact Jb c hc
end Rx
namespace Rx
open Go.RowKit
def jE (db:List Fc):List Cell→Option (RE×Nat)
 | [.ob a,.os b,.bl false,.os c]=>if a=b && a+1=c then qg db a else none
 | _=>none
theorem kU {β:Nat→Rat} {ρ:Env} {W:World} {db:List Fc} {cs:List Cell} {e:RE} {k:Nat} (h:jE db cs=some (e,k)) (hf:∀ f∈db,(SQ β).on ρ f W):Z4.IsR W (.agg (cs.map (Cell.den ρ)).toArray) (e.ev β)∧Fits k (e.ev β):=by
 unfold jE at h
 split at h
 ·rename_i a b c
  split at h
  ·rename_i hh
   simp only [Bool.and_eq_true,decide_eq_true_eq] at hh
   obtain ⟨rfl,rfl⟩:=hh
   exact hf _ (qj h)
  ·cases h
 ·cases h
def nu (n:Int):Nv:=⟨false,n,none,0,0,.empty,0⟩
abbrev hv (n d b:Int):List Value:=[.int .i64 n,.int .i64 d,.int .u8 b]
def conBothP (β:Nat→Rat):Con (SQ β) where
 fn:=66
 app:=fun db b args=>match args with
  | [.e (.a x)]=>match rY (x.take 3),rY (x.drop 3) with
   | some a,some a'=>match lI db a,lI db a' with
    | some e,some e'=>some (.t [.a (aS b ++ aS (b+2)),.a (bg (b+4) ++ bg (b+6))],[.q b e 4,.q (b+2) e' 4,.r (b+4) e 4,.r (b+6) e' 4])
    | _,_=>none
   | _,_=>none
  | _=>none
def GK (a b c d:RE):RE:=.sub (.mul c a) (.mul d b)
def UL (a b c d:RE):RE:=.sub (.mul a c) (.mul b d)
abbrev C1:RE:=tC (.v 0)
abbrev S1:RE:=tS (.v 0)
abbrev C2:RE:=tC (.v 1)
abbrev S2:RE:=tS (.v 1)
abbrev wC:RE:=UL C1 S1 C2 S2
abbrev ax:RE:=GK (.v 2) (.v 3) C1 S1
abbrev bx:RE:=GK (.v 4) (.v 5) C1 S1
end Rx
section
open Go.ChangeShapes Go.WideShapes Go.ChangeAt Go.RowKit Go.Joins
section
variable {H:Type} {enc:TypeId×Value→H}
theorem NumIn.is {n d:Int} {b:Nat} (h:NumIn n d b):Rx.IsN n d (b:Int) (numOf n d b):=⟨b,rfl,h.b1,h.n1,h.n2,h.d1,h.d2,rfl⟩
end
end
namespace Z4
open Go.RowKit Go.Sort
structure jT (xs ys ds:List Nat) (k c:Nat):Prop where
 len:ds.length=k
 dig:Dig ds
 le:c≤1
 eq:val ds+c*B4 ^ k=val (xs.take k)+val (ys.take k)
 top:k=0∨(∃ e d,ds=e ++ [d]∧d≠0)∨k<xs.length∨k<ys.length∨0<c
 b1:k≤xs.length+ys.length+1
 b2:0<c→k≤xs.length+ys.length
theorem jT.start (xs ys:List Nat):jT xs ys [] 0 0:=⟨rfl,Dig.nil,by omega,by simp [val],.inl rfl,by omega,by omega⟩
theorem GH (xs:List Nat) (k:Nat):val (xs.take (k+1))=val (xs.take k)+B4 ^ k*xs[k]?.getD 0:=by
 by_cases hk:k<xs.length
 ·rw [uh xs k hk,List.getElem?_eq_getElem hk];rfl
 ·rw [List.getElem?_eq_none (by omega),List.take_of_length_le (by omega),List.take_of_length_le (by omega)];simp
theorem jT.step {xs ys ds:List Nat} {k c x y d c':Nat} (h:jT xs ys ds k c) (hgo:k<xs.length∨k<ys.length∨0<c) (tx:aG xs) (ty:aG ys) (hx:xs[k]?.getD 0=x) (hy:ys[k]?.getD 0=y) (hd:d<10000) (hc:c'≤1) (e:c+x+y=d+c' * 10000) (e0:k<xs.length→x<10000) (e1:k<ys.length→y<10000) :
  jT xs ys (ds ++ [d]) (k+1) c':=by
 have hb:xs.length≤k→x=0:=fun h=>by rw [← hx,List.getElem?_eq_none h];rfl
 have hb':ys.length≤k→y=0:=fun h=>by rw [← hy,List.getElem?_eq_none h];rfl
 have hle:=h.le
 have hb1:=h.b1
 have hb2:=h.b2
 have hlast:k+1=xs.length→x≠0:=fun hk e0=>by
  have hne:xs≠[]:=fun e=>by subst e;simp at hk
  have:=tx hne
  rw [List.getLast_eq_getElem] at this
  apply this
  rw [← e0,← hx,List.getElem?_eq_getElem (by omega)]
  simp only [Option.getD_some]
  congr 1
  omega
 have hlast':k+1=ys.length→y≠0:=fun hk e0=>by
  have hne:ys≠[]:=fun e=>by subst e;simp at hk
  have:=ty hne
  rw [List.getLast_eq_getElem] at this
  apply this
  rw [← e0,← hy,List.getElem?_eq_getElem (by omega)]
  simp only [Option.getD_some]
  congr 1
  omega
 refine ⟨by simp [h.len],h.dig.append (fun z hz=>by simp at hz;subst hz;exact hd),hc,?_,?_,?_,?_⟩
 ·have h1:=h.eq
  rw [GH xs,GH ys,gu,h.len,Nat.pow_succ,hx,hy,show B4=10000 from rfl]
  rw [show B4=10000 from rfl] at h1
  generalize 10000 ^ k=P at *
  generalize val (xs.take k)=X at *
  generalize val (ys.take k)=Y at *
  generalize val ds=D at *
  have:=congrArg (P * ·) e
  grind
 ·right
  by_cases hd0:d=0
  ·right
   subst hd0
   rcases Nat.eq_zero_or_pos c' with hc0 | hc0
   ·subst hc0
    have:c=0∧x=0∧y=0:=by omega
    obtain ⟨rfl,rfl,rfl⟩:=this
    rcases Nat.lt_trichotomy (k+1) xs.length with h1 | h1 | h1
    ·exact .inl h1
    ·exact absurd rfl (hlast h1)
    ·rcases Nat.lt_trichotomy (k+1) ys.length with h2 | h2 | h2
     ·exact .inr (.inl h2)
     ·exact absurd rfl (hlast' h2)
     ·omega
   ·exact .inr (.inr hc0)
  ·exact .inl ⟨ds,d,rfl,hd0⟩
 ·omega
 ·intro hc0
  by_cases h1:k<xs.length
  ·omega
  ·by_cases h2:k<ys.length
   ·omega
   ·have:=hb (by omega);have:=hb' (by omega);omega
theorem jT.done {xs ys ds:List Nat} {k:Nat} (h:jT xs ys ds k 0) (h1:xs.length≤k) (h2:ys.length≤k):val ds=val xs+val ys∧aG ds:=by
 refine ⟨?_,?_⟩
 ·have:=h.eq
  rw [List.take_of_length_le h1,List.take_of_length_le h2] at this
  omega
 ·intro hne
  rcases h.top with h3 | ⟨e,d,rfl,hd⟩ | h3 | h3 | h3
  ·exfalso;apply hne;rw [← List.length_eq_zero_iff,h.len,h3]
  ·simpa using hd
  ·omega
  ·omega
  ·omega
theorem QM (p p2:Option Addr) (b o k b2 o2 k2:Nat) (xs ys:List Nat) (w:World) (hp:xs.length≠0→p=some ⟨b,o,none⟩) (hbw:xs.length≠0→b<w.heap.size) (hx:Ints w b o xs) (hp2:ys.length≠0→p2=some ⟨b2,o2,none⟩) (hbw2:ys.length≠0→b2<w.heap.size) (hy:Ints w b2 o2 ys)
  (dx:Dig xs) (dy:Dig ys) (tx:aG xs) (ty:aG ys) (hsz:xs.length≤549755813888) (hsz2:ys.length≤549755813888) :
  Calls Tryz.prog 167 #[.slice p xs.length k,.slice p2 ys.length k2] w (jF w (val xs+val ys)):=by
 have HP:=hid (And.intro hp (And.intro hbw hx))
 have HP2:=hid (And.intro hp2 (And.intro hbw2 hy))
 have HT:=hid (And.intro tx ty)
 clear hp hbw hx hp2 hbw2 hy tx ty
 obtain ⟨i0,hi,hz0,hz1,hz2⟩:=info_parts lu
 obtain ⟨V,hV⟩:∃ V,val xs+val ys=V:=⟨_,rfl⟩
 rw [hV]
 have HVV:=hid hV
 clear hV
 go_enter Tryz.func167,Tryz.ntmps167
 go_wp2
 go_loopw [5,6,7] (fun ov cv iv wr=>∃ (i c:Nat) (ds:List Nat),iv=.int .i64 i∧cv=.int .i64 c∧wr.ownsRow w.heap.size 3 1 ov i (ds.map enc)∧jT xs ys ds i c∧Below w.heap.size w wr) (fun _ _ iv _=>(xs.length+ys.length+1) - (intOf iv).toNat)
 case atStart=>exact ⟨0,0,[],rfl,rfl,World.ownsRow_nil _ _ _ _,jT.start xs ys,Below.refl _ _⟩
 case round =>
  obtain ⟨i,c,ds,rfl,rfl,hown,hI,hB⟩:=hrel
  have hc1:=hI.le
  have hb1:=hI.b1
  have hb2:=hI.b2
  have HB:=hid hB
  have HO:=hid hown
  by_cases hgo:i<xs.length∨i<ys.length∨0<c
  ·obtain ⟨x,hxi⟩:∃ x,xs[i]?.getD 0=x:=⟨_,rfl⟩
   obtain ⟨y,hyi⟩:∃ y,ys[i]?.getD 0=y:=⟨_,rfl⟩
   have hx1:x<10000:=hxi ▸ dx.getD i
   have hy1:y<10000:=hyi ▸ dy.getD i
   have HI:=hid (fun (d c':Nat) (hd:d<10000) (hc:c'≤1) (e:c+x+y=d+c' * 10000) (e0:k=k) (e1:k=k)=>hI.step hgo HT.out.1 HT.out.2 hxi hyi hd hc e (fun _=>hx1) (fun _=>hy1))
   have HX:=hid hxi
   have HY:=hid hyi
   clear hI hxi hyi hB hown
   by_cases hlx:i<xs.length
   ·by_cases hly:i<ys.length
    ·clear hgo
     obtain rfl:=HP.out.1 (by omega)
     have cx:wr.cell? ⟨b,o+i,none⟩=some (.int .i64 (x:Int)):=by rw [HB.out.cell (p:=⟨b,o+i,none⟩) (HP.out.2.1 (by omega)),HP.out.2.2 i (by omega),HX.out]
     obtain rfl:=HP2.out.1 (by omega)
     have cy:wr.cell? ⟨b2,o2+i,none⟩=some (.int .i64 (y:Int)):=by rw [HB.out.cell (p:=⟨b2,o2+i,none⟩) (HP2.out.2.1 (by omega)),HP2.out.2.2 i (by omega),HY.out]
     obtain ⟨s,hs⟩:∃ s:Nat,s=c+x+y:=⟨_,rfl⟩
     obtain ⟨d,hd⟩:∃ d:Nat,d=s % 10000:=⟨_,rfl⟩
     obtain ⟨c',hc'⟩:∃ c':Nat,c' = s / 10000:=⟨_,rfl⟩
     have hd1:d<10000:=by omega
     have HN:=hid (HI.out d c' hd1 (by omega) (by omega) (by omega) (by omega))
     have HD:=hid (And.intro hs (And.intro hd hc'))
     clear hs hd hc' hd1
     go_wp2_with (first
      | (at_builtin;refine wpList_append_own _ rfl _ _ 36 rfl w.heap.size 3 i0 (.int .i64 0) 1 8 Tryz.underlying36 hi hz0 hz1 hz2 rfl (by decide) _ _ _ rfl (HO.out.alloc _) ⟨wr.heap.size,0,none⟩ 1 1 [.int .i64 (d:Int)] rfl rfl ?c1 ?c2 ?c3 ?c4 ?c5 ?_))
     case c1 =>
      intro j u hj
      match j,hj with
      | 0,hj=>simp at hj;subst hj;have:=HD.out;first | (simp;omega) | (simp [Addr.add];omega) | (simp [Addr.add])
     case c2=>first | rfl | (intro u hu;simp at hu;subst hu;rfl)
     case c3=>unfold maxLen;omega
     case c4=>omega
     case c5=>have:=HB.out.size;simp;omega
     intro v' w1 hown' hgrow _
     have hB2:Below w.heap.size w w1:=(HB.out.alloc HB.out.size _).grown hgrow (by have:=HB.out.size;simp;omega) (fun k hk=>(HO.out.lt k hk).1)
     rw [← iV] at hown'
     have HO2:=hid hown'
     have HB2:=hid hB2
     clear hown' hgrow hB2
     go_wp2
     go_roundw
     case rel=>exact ⟨i+1,c',ds ++ [d],by go_num,by have:=HD.out;first | rfl | (congr 1;omega),HO2.out,HN.out,HB2.out⟩
     case measure=>simp [intOf];omega
    ·clear hgo
     obtain rfl:=HP.out.1 (by omega)
     have cx:wr.cell? ⟨b,o+i,none⟩=some (.int .i64 (x:Int)):=by rw [HB.out.cell (p:=⟨b,o+i,none⟩) (HP.out.2.1 (by omega)),HP.out.2.2 i (by omega),HX.out]
     obtain rfl:y=0:=by rw [← HY.out,List.getElem?_eq_none (by omega)];rfl
     obtain ⟨s,hs⟩:∃ s:Nat,s=c+x+0:=⟨_,rfl⟩
     obtain ⟨d,hd⟩:∃ d:Nat,d=s % 10000:=⟨_,rfl⟩
     obtain ⟨c',hc'⟩:∃ c':Nat,c' = s / 10000:=⟨_,rfl⟩
     have hd1:d<10000:=by omega
     have HN:=hid (HI.out d c' hd1 (by omega) (by omega) (by omega) (by omega))
     have HD:=hid (And.intro hs (And.intro hd hc'))
     clear hs hd hc' hd1
     go_wp2_with (first
      | (at_builtin;refine wpList_append_own _ rfl _ _ 36 rfl w.heap.size 3 i0 (.int .i64 0) 1 8 Tryz.underlying36 hi hz0 hz1 hz2 rfl (by decide) _ _ _ rfl (HO.out.alloc _) ⟨wr.heap.size,0,none⟩ 1 1 [.int .i64 (d:Int)] rfl rfl ?c1 ?c2 ?c3 ?c4 ?c5 ?_))
     case c1 =>
      intro j u hj
      match j,hj with
      | 0,hj=>simp at hj;subst hj;have:=HD.out;first | (simp;omega) | (simp [Addr.add];omega) | (simp [Addr.add])
     case c2=>first | rfl | (intro u hu;simp at hu;subst hu;rfl)
     case c3=>unfold maxLen;omega
     case c4=>omega
     case c5=>have:=HB.out.size;simp;omega
     intro v' w1 hown' hgrow _
     have hB2:Below w.heap.size w w1:=(HB.out.alloc HB.out.size _).grown hgrow (by have:=HB.out.size;simp;omega) (fun k hk=>(HO.out.lt k hk).1)
     rw [← iV] at hown'
     have HO2:=hid hown'
     have HB2:=hid hB2
     clear hown' hgrow hB2
     go_wp2
     go_roundw
     case rel=>exact ⟨i+1,c',ds ++ [d],by go_num,by have:=HD.out;first | rfl | (congr 1;omega),HO2.out,HN.out,HB2.out⟩
     case measure=>simp [intOf];omega
   ·by_cases hly:i<ys.length
    ·clear hgo
     obtain rfl:x=0:=by rw [← HX.out,List.getElem?_eq_none (by omega)];rfl
     obtain rfl:=HP2.out.1 (by omega)
     have cy:wr.cell? ⟨b2,o2+i,none⟩=some (.int .i64 (y:Int)):=by rw [HB.out.cell (p:=⟨b2,o2+i,none⟩) (HP2.out.2.1 (by omega)),HP2.out.2.2 i (by omega),HY.out]
     obtain ⟨s,hs⟩:∃ s:Nat,s=c+0+y:=⟨_,rfl⟩
     obtain ⟨d,hd⟩:∃ d:Nat,d=s % 10000:=⟨_,rfl⟩
     obtain ⟨c',hc'⟩:∃ c':Nat,c' = s / 10000:=⟨_,rfl⟩
     have hd1:d<10000:=by omega
     have HN:=hid (HI.out d c' hd1 (by omega) (by omega) (by omega) (by omega))
     have HD:=hid (And.intro hs (And.intro hd hc'))
     clear hs hd hc' hd1
     go_wp2_with (first
      | (at_builtin;refine wpList_append_own _ rfl _ _ 36 rfl w.heap.size 3 i0 (.int .i64 0) 1 8 Tryz.underlying36 hi hz0 hz1 hz2 rfl (by decide) _ _ _ rfl (HO.out.alloc _) ⟨wr.heap.size,0,none⟩ 1 1 [.int .i64 (d:Int)] rfl rfl ?c1 ?c2 ?c3 ?c4 ?c5 ?_))
     case c1 =>
      intro j u hj
      match j,hj with
      | 0,hj=>simp at hj;subst hj;have:=HD.out;first | (simp;omega) | (simp [Addr.add];omega) | (simp [Addr.add])
     case c2=>first | rfl | (intro u hu;simp at hu;subst hu;rfl)
     case c3=>unfold maxLen;omega
     case c4=>omega
     case c5=>have:=HB.out.size;simp;omega
     intro v' w1 hown' hgrow _
     have hB2:Below w.heap.size w w1:=(HB.out.alloc HB.out.size _).grown hgrow (by have:=HB.out.size;simp;omega) (fun k hk=>(HO.out.lt k hk).1)
     rw [← iV] at hown'
     have HO2:=hid hown'
     have HB2:=hid hB2
     clear hown' hgrow hB2
     go_wp2
     go_roundw
     case rel=>exact ⟨i+1,c',ds ++ [d],by go_num,by have:=HD.out;first | rfl | (congr 1;omega),HO2.out,HN.out,HB2.out⟩
     case measure=>simp [intOf];omega
    ·have hc0:0<c:=by omega
     clear hgo
     obtain rfl:x=0:=by rw [← HX.out,List.getElem?_eq_none (by omega)];rfl
     obtain rfl:y=0:=by rw [← HY.out,List.getElem?_eq_none (by omega)];rfl
     have hcc:0<c:=by omega
     obtain rfl:c=1:=by omega
     obtain ⟨s,hs⟩:∃ s:Nat,s=1+0+0:=⟨_,rfl⟩
     obtain ⟨d,hd⟩:∃ d:Nat,d=s % 10000:=⟨_,rfl⟩
     obtain ⟨c',hc'⟩:∃ c':Nat,c' = s / 10000:=⟨_,rfl⟩
     have hd1:d<10000:=by omega
     have HN:=hid (HI.out d c' hd1 (by omega) (by omega) (by omega) (by omega))
     have HD:=hid (And.intro hs (And.intro hd hc'))
     clear hs hd hc' hd1
     go_wp2_with (first
      | (at_builtin;refine wpList_append_own _ rfl _ _ 36 rfl w.heap.size 3 i0 (.int .i64 0) 1 8 Tryz.underlying36 hi hz0 hz1 hz2 rfl (by decide) _ _ _ rfl (HO.out.alloc _) ⟨wr.heap.size,0,none⟩ 1 1 [.int .i64 (d:Int)] rfl rfl ?c1 ?c2 ?c3 ?c4 ?c5 ?_))
     case c1 =>
      intro j u hj
      match j,hj with
      | 0,hj=>simp at hj;subst hj;have:=HD.out;first | (simp;omega) | (simp [Addr.add];omega) | (simp [Addr.add])
     case c2=>first | rfl | (intro u hu;simp at hu;subst hu;rfl)
     case c3=>unfold maxLen;omega
     case c4=>omega
     case c5=>have:=HB.out.size;simp;omega
     intro v' w1 hown' hgrow _
     have hB2:Below w.heap.size w w1:=(HB.out.alloc HB.out.size _).grown hgrow (by have:=HB.out.size;simp;omega) (fun k hk=>(HO.out.lt k hk).1)
     rw [← iV] at hown'
     have HO2:=hid hown'
     have HB2:=hid hB2
     clear hown' hgrow hB2
     go_wp2
     go_roundw
     case rel=>exact ⟨i+1,c',ds ++ [d],by go_num,by have:=HD.out;first | rfl | (congr 1;omega),HO2.out,HN.out,HB2.out⟩
     case measure=>simp [intOf];omega
  ·have hlx:¬ i<xs.length:=by omega
   have hly:¬ i<ys.length:=by omega
   obtain rfl:c=0:=by omega
   clear hgo
   have HD:=hid (hI.done (by omega) (by omega))
   have HL:=hid (IsL.of_own hown)
   have HI:=hid hI
   clear hI hown hB
   go_wp2
   go_ret
   exact ⟨_,_,rfl,HL.out,HI.out.dig,HD.out.2,by rw [HD.out.1,HVV.out],HB.out⟩
theorem QI {B B2:Nat} (v v2:Value) (xs ys:List Nat) (w:World) (h:IsL B w v xs) (h2:IsL B2 w v2 ys) (dx:Dig xs) (dy:Dig ys) (tx:aG xs) (ty:aG ys) (hsz:xs.length≤549755813888) (hsz2:ys.length≤549755813888) :
  Calls Tryz.prog 167 #[v,v2] w (jF w (val xs+val ys)):=by
 obtain ⟨p,b,o,k,rfl,hp,hb,hk,hx⟩:=h.shape
 obtain ⟨p2,b2,o2,k2,rfl,hp2,hb2,hk2,hy⟩:=h2.shape
 exact QM p p2 b o k b2 o2 k2 xs ys w hp hb hx hp2 hb2 hy dx dy tx ty hsz hsz2
end Z4
namespace Rx
open Go.RowKit
inductive Fd
 | l (s:Nat) (e:RE) (k:Nat)
 | z (s:Nat) (e:RE) (k:Nat)
 | r (s:Nat) (e:RE) (k:Nat)
def Fd.nm:Fd→List Nat
 | .l s _ _ | .z s _ _=>[s]
 | .r s _ _=>[s,s+1]
def zC (s:Nat):List Cell:=[.ob s,.os s]
def IsG (W:World) (v:Value) (r:Rat) (k:Nat):Prop:=∃ xs,Z4.IsL 0 W v xs∧Z4.Dig xs∧Z4.aG xs∧((Z4.val xs:Nat):Rat)=r∧Z4.val xs<B64 ^ k
def IsY (W:World) (v:Value) (r:Rat) (k:Nat):Prop:=∃ z:Int,Z4.IsZ W v z∧(z:Rat)=r∧z.natAbs<B64 ^ k
def Fd.on (β:Nat→Rat) (ρ:Env):Fd→World→Prop
 | .l s e k,W=>IsG W (.slice (ρ s).p (ρ s).l (ρ s).c) (e.ev β) k
 | .z s e k,W=>IsY W (.agg ((zC s).map (Cell.den ρ)).toArray) (e.ev β) k
 | .r s e k,W=>Z4.IsR W (.agg ((bg s).map (Cell.den ρ)).toArray) (e.ev β)∧Fits k (e.ev β)
def SR (β:Nat→Rat):Sys where
 F:=Fd
 nm:=Fd.nm
 on:=Fd.on β
 okC:=okC
 cg:=fun {ρ ρ' f W} h hf=>by
  cases f with
  | l s e k=>simp only [Fd.on] at hf ⊢;rw [← h s (by simp [Fd.nm])];exact hf
  | z s e k =>
   simp only [Fd.nm,List.mem_cons,List.not_mem_nil,or_false] at h
   simp only [Fd.on] at hf ⊢
   rwa [mM (ρ:=ρ') (ρ':=ρ) (l:=zC s) fun n hn=>(h n (by simpa [zC,Cell.nm] using hn)).symm]
  | r s e k =>
   simp only [Fd.nm,List.mem_cons,List.not_mem_nil,or_false] at h
   simp only [Fd.on] at hf ⊢
   rwa [mM (ρ:=ρ') (ρ':=ρ) (l:=bg s) fun n hn=>(h n (by simpa [bg,Cell.nm] using hn)).symm]
 bl:=fun {ρ f W W'} hb hf=>by
  cases f with
  | l s e k=>obtain ⟨xs,h1,h2⟩:=hf;exact ⟨xs,h1.below hb,h2⟩
  | z s e k=>obtain ⟨z,h1,h2⟩:=hf;exact ⟨z,h1.below hb,h2⟩
  | r s e k=>exact ⟨Z4.IsR.below hf.1 hb,hf.2⟩
 st:=fun {ρ f W b T cs i u} hok hb hf=>by
  have hv:=AB ρ hok
  have hb':Go.Proofs.YtnmlkobogofadaaGreatDoor.Bx W b T (cs.map (Cell.den ρ)):=hb
  cases f with
  | l s e k=>obtain ⟨xs,h1,h2⟩:=hf;exact ⟨xs,h1.setBox hb' hv,h2⟩
  | z s e k=>obtain ⟨z,h1,h2⟩:=hf;exact ⟨z,h1.setBox hb' hv,h2⟩
  | r s e k=>exact ⟨Z4.IsR.setBox hf.1 hb' hv,hf.2⟩
def HR (β:Nat→Rat):Tests (SR β) where
 eq:=fun _ _ _=>none
 ok:=fun h=>(by cases h)
theorem iU (k:Nat):B64 ^ k≤Z4.B4 ^ (5*k):=by
 rw [Nat.pow_mul]
 exact Nat.pow_le_pow_left (by decide) k
theorem su {xs:List Nat} {k:Nat} (t:Z4.aG xs) (h:Z4.val xs<B64 ^ k):xs.length≤5*k:=Z4.dw t (Nat.lt_of_lt_of_le h (iU k))
def iM:List Fd→Nat→Option (RE×Nat)
 | [],_=>none
 | .l s e k :: r,n=>if s=n then some (e,k) else iM r n
 | _ :: r,n=>iM r n
theorem iW {n:Nat} {e:RE} {k:Nat}:∀ {db:List Fd},iM db n=some (e,k)→.l n e k∈db
 | [],h=>by simp [iM] at h
 | f :: r,h=>by
  cases f with
  | l s e' k' =>
   simp only [iM] at h
   split at h
   ·rename_i hs;cases h;subst hs;simp
   ·exact List.mem_cons_of_mem _ (iW h)
  | z _ _ _=>exact List.mem_cons_of_mem _ (iW h)
  | r _ _ _=>exact List.mem_cons_of_mem _ (iW h)
def asG (db:List Fd):Cell→Option (RE×Nat)
 | .os s=>iM db s
 | .nils=>some (.c 0,0)
 | _=>none
theorem pF {β:Nat→Rat} {ρ:Env} {W:World} {db:List Fd} {c:Cell} {e:RE} {k:Nat} (h:asG db c=some (e,k)) (hf:∀ f∈db,(SR β).on ρ f W):IsG W (c.den ρ) (e.ev β) k:=by
 unfold asG at h
 split at h
 ·exact hf _ (iW h)
 ·cases h
  exact ⟨[],Z4.IsL.nil 0 W,Z4.Dig.nil,fun h=>absurd rfl h,rfl,by simp [Z4.val]⟩
 ·cases h
section
variable (β:Nat→Rat) (h:Hint)
def yX:Con (SR β) where
 fn:=167
 app:=fun db b args=>match args with
  | [.e (.s x),.e (.s y)]=>match asG db x,asG db y with
   | some (e,k),some (e',k')=>if decide (k≤K1) && decide (k'≤K1) then some (.e (.s (.os b)),[.l b (.add e e') (max k k' + 1)]) else none
   | _,_=>none
  | _=>none
def yS:Con (SR β) where
 fn:=169
 app:=fun db b args=>match args with
  | [.e (.s x),.e (.s y)]=>match asG db x,asG db y with
   | some (e,k),some (e',k')=>if decide (k≤K1) && decide (k'≤K1) && (cmB h e e').any (0≤·) then some (.e (.s (.os b)),[.l b (.sub e e') k]) else none
   | _,_=>none
  | _=>none
def yw:Con (SR β) where
 fn:=168
 app:=fun db _ args=>match args with
  | [.e (.s x),.e (.s y)]=>match asG db x,asG db y with
   | some (e,k),some (e',k')=>if decide (k≤K1) && decide (k'≤K1) then (match cmB h e e' with
     | some c=>some (.e (.s (.it .i64 c)),[])
     | none=>none) else none
   | _,_=>none
  | _=>none
def zD:Con (SR β) where
 fn:=134
 app:=fun db _ args=>match args with
  | [.e (.s (.bl t)),.e (.s (.os s))]=>match iM db s with
   | some (e,_)=>if !t then some (.e (.a [.bl false,.os s]),[]) else
     if nzB h e then some (.e (.a [.bl true,.os s]),[]) else
     if eqB h e (.c 0) then some (.e (.a [.bl false,.os s]),[]) else none
   | none=>none
  | _=>none
def cz:List (Con (SR β)):=[yX β,yS β h,yw β h,zD β h]
end
section
variable {β:Nat→Rat} {h:Hint}
def Anr (β:Nat→Rat) (ρ:Env) (b:Nat) (W:World) (res:SV) (new:List Fd) (e:Ending) (W':World):Prop:=
 ∃ ρ':Env,(∀ n,n<b∨b+M≤n→ρ' n=ρ n)∧e=.returned (res.den ρ')∧Below W.heap.size W W'∧∀ g∈new,(SR β).on ρ' g W'
theorem Ri {a b:Nat}:((a:Nat):Rat)<((b:Nat):Rat)↔a<b:=by exact_mod_cast Iff.rfl
theorem CW {f:FuncId} {vals:Array Value} {W:World} {ρ:Env} {b:Nat} {n:Nat} {e:RE} {k:Nat} (hc:Calls Tryz.prog f vals W (Z4.jF W n)) (hn:((n:Nat):Rat)=e.ev β) (hk:n<B64 ^ k) :
  Calls Tryz.prog f vals W (Anr β ρ b W (.e (.s (.os b))) [.l b e k]):=by
 refine hc.mono fun _ W' ⟨v,ds,he,hl,hd,ht,hv,hb⟩=>?_
 obtain ⟨p,l,c,rfl⟩:=hl.mk
 refine ⟨aK ρ b [⟨false,0,p,l,c,.empty,0⟩],jv (by simp [M]),?_,hb,fun g hg=>?_⟩
 ·rw [he];simp [SV.den,El.den,Cell.den,aK]
 ·rw [List.mem_singleton] at hg
  subst hg
  refine ⟨ds,?_,hd,ht,by rw [hv];exact hn,by rw [hv];exact hk⟩
  simpa [aK] using hl.mono (Nat.zero_le _)
theorem JA:(yX β).Ok Tryz.prog (SR β) EV:=by
 intro db b args res new ha ρ W hf hE
 simp only [yX] at ha
 split at ha
 ·split at ha
  ·rename_i x y _ _ e k e' k' hx hy
   split at ha
   ·rename_i hk
    simp only [Bool.and_eq_true,decide_eq_true_eq] at hk
    cases ha
    obtain ⟨xs,h1,h2,h3,h4,h5⟩:=pF hx hf
    obtain ⟨ys,g1,g2,g3,g4,g5⟩:=pF hy hf
    refine CW (e:=.add e e') (Z4.QI _ _ xs ys W h1 g1 h2 g2 h3 g3 (Nat.le_trans (su h3 h5) (by simp only [K1] at hk;omega)) (Nat.le_trans (su g3 g5) (by simp only [K1] at hk;omega))) (by rw [Rat.natCast_add,h4,g4];rfl) ?_
    have a1:=Nat.pow_le_pow_right (show 0<B64 by decide) (Nat.le_max_left k k')
    have a2:=Nat.pow_le_pow_right (show 0<B64 by decide) (Nat.le_max_right k k')
    rw [Nat.pow_succ]
    have:B64 ^ max k k' * 2≤B64 ^ max k k' * B64:=Nat.mul_le_mul_left _ (by decide)
    omega
   ·cases ha
  ·cases ha
 ·cases ha
theorem uI {m n:Nat}:aY ((m:Nat):Rat) ((n:Nat):Rat)=aI m n:=by
 unfold aY aI
 have e:((m:Nat):Rat)=((n:Nat):Rat)↔m=n:=by exact_mod_cast Iff.rfl
 simp only [Ri,e]
theorem Jd {m n:Nat} (h:0≤aI m n):n≤m:=by
 unfold aI at h
 split at h
 ·omega
 ·omega
theorem Jw (ok:h.Ok β):(yS β h).Ok Tryz.prog (SR β) EV:=by
 intro db b args res new ha ρ W hf hE
 simp only [yS] at ha
 split at ha
 ·split at ha
  ·rename_i x y _ _ e k e' k' hx hy
   split at ha
   ·rename_i hk
    simp only [Bool.and_eq_true,decide_eq_true_eq] at hk
    cases ha
    obtain ⟨xs,h1,h2,h3,h4,h5⟩:=pF hx hf
    obtain ⟨ys,g1,g2,g3,g4,g5⟩:=pF hy hf
    obtain ⟨c,hc,hc0⟩:∃ c,cmB h e e' = some c∧0≤c:=by
     cases hcm:cmB h e e' with
     | none=>rw [hcm] at hk;simp at hk
     | some c=>rw [hcm] at hk;exact ⟨c,rfl,by simpa using hk.2⟩
    have hle:Z4.val ys≤Z4.val xs:=by
     have:=pO ok hc
     rw [← h4,← g4,uI] at this
     exact Jd (by omega)
    refine CW (e:=.sub e e') (Z4.nU _ _ xs ys W h1 g1 h2 g2 g3 hle (Nat.le_trans (su h3 h5) (by simp only [K1] at hk;omega))) ?_ (by omega)
    show _=e.ev β - e'.ev β
    rw [← h4,← g4]
    have:Z4.val xs - Z4.val ys+Z4.val ys=Z4.val xs:=by omega
    have h6:=congrArg (fun n:Nat=>(n:Rat)) this
    simp only [Rat.natCast_add] at h6
    grind
   ·cases ha
  ·cases ha
 ·cases ha
theorem Jl (ok:h.Ok β):(yw β h).Ok Tryz.prog (SR β) EV:=by
 intro db b args res new ha ρ W hf hE
 simp only [yw] at ha
 split at ha
 ·split at ha
  ·rename_i x y _ _ e k e' k' hx hy
   split at ha
   ·rename_i hk
    simp only [Bool.and_eq_true,decide_eq_true_eq] at hk
    split at ha
    ·rename_i c hc
     cases ha
     obtain ⟨xs,h1,h2,h3,h4,h5⟩:=pF hx hf
     obtain ⟨ys,g1,g2,g3,g4,g5⟩:=pF hy hf
     have hcc:=pO ok hc
     rw [← h4,← g4,uI] at hcc
     refine (Z4.vw _ _ xs ys W h1 g1 h2 g2 h3 g3 (Nat.le_trans (su h3 h5) (by simp only [K1] at hk;omega)) (Nat.le_trans (su g3 g5) (by simp only [K1] at hk;omega))).mono fun _ W' ⟨he,q,hq⟩=>⟨ρ,fun _ _=>rfl,?_,?_,fun g hg=>by cases hg⟩
     ·rw [he,hcc];rfl
     ·subst hq
      exact Z4.dY (Below.refl _ _) q
    ·cases ha
   ·cases ha
  ·cases ha
 ·cases ha
theorem JV (ok:h.Ok β):(zD β h).Ok Tryz.prog (SR β) EV:=by
 intro db b args res new ha ρ W hf hE
 simp only [zD] at ha
 split at ha
 ·rename_i t s
  split at ha
  ·rename_i e k hx
   obtain ⟨xs,h1,h2,h3,h4,h5⟩:=hf _ (iW hx)
   have hlen:=h1.len
   have hc:=Z4.Gt t (ρ s).p (ρ s).l (ρ s).c W
   have hpos:e.ev β≠0→decide (0<(ρ s).l)=true:=fun hne=>by
    rw [decide_eq_true_eq]
    rcases Nat.eq_zero_or_pos (ρ s).l with h0 | h0
    ·exfalso;apply hne;rw [← h4]
     have:xs=[]:=List.length_eq_zero_iff.1 (by omega)
     subst this;rfl
    ·exact h0
   have hzero:e.ev β=0→decide (0<(ρ s).l)=false:=fun h0=>by
    rw [decide_eq_false_iff_not]
    intro hp
    have hne:xs≠[]:=fun e=>by subst e;simp at hlen;omega
    have:=Z4.kJ h3 hne
    have h6:((Z4.val xs:Nat):Rat)=((0:Nat):Rat):=h4.trans h0
    have:Z4.val xs=0:=by exact_mod_cast h6
    omega
   have hans:∀ x:Bool,(t && decide (0<(ρ s).l))=x→Calls Tryz.prog 134 #[.bool t,.slice (ρ s).p (ρ s).l (ρ s).c] W (Anr β ρ b W (.e (.a [.bl x,.os s])) []):=fun x hx=>by
    refine hc.mono fun _ W' ⟨he,hb⟩=>⟨ρ,fun _ _=>rfl,?_,hb,fun g hg=>by cases hg⟩
    rw [he,hx];rfl
   split at ha
   ·rename_i ht
    cases ha
    exact hans false (by simp at ht;simp [ht])
   ·rename_i ht
    have ht':t=true:=by simpa using ht
    split at ha
    ·rename_i hn
     cases ha
     exact hans true (by rw [ht',hpos (nM ok hn)];rfl)
    ·split at ha
     ·rename_i hn
      cases ha
      exact hans false (by rw [hzero ((rP ok hn).trans rfl)];simp)
     ·cases ha
  ·cases ha
 ·cases ha
theorem Dx (ok:h.Ok β):∀ c∈cz β h,c.Ok Tryz.prog (SR β) EV:=by
 unfold cz
 simp only [List.forall_mem_cons,List.not_mem_nil,false_imp_iff,implies_true,and_true]
 exact ⟨JA,Jw ok,Jl ok,JV ok⟩
end
end Rx
namespace Rx
open Go.RowKit
def isY (t:Bool) (e:RE):Option (SV×List Fd)→Bool
 | some (.e (.a [.bl x,.os s]),fs)=>match iM fs s with
  | some (e',_)=>x == t && e'.beq e
  | none=>false
 | _=>false
theorem NZ {t:Bool} {e:RE} {o:Option (SV×List Fd)} (h:isY t e o=true):∃ s fs k,o=some (.e (.a [.bl t,.os s]),fs)∧iM fs s=some (e,k):=by
 unfold isY at h
 split at h
 ·split at h
  ·rename_i x s fs _ e' k ha
   simp only [Bool.and_eq_true,beq_iff_eq] at h
   exact ⟨s,fs,k,by rw [h.1],by rw [ha,RE.beq_eq h.2]⟩
  ·cases h
 ·cases h
def isJ (x:Int):Option (SV×List Fd)→Bool
 | some (.e (.s (.it .i64 y)),_)=>x == y
 | _=>false
theorem Ef {x:Int} {o:Option (SV×List Fd)} (h:isJ x o=true):∃ fs,o=some (.e (.s (.it .i64 x)),fs):=by
 unfold isJ at h
 split at h
 ·rename_i y fs
  have e:x=y:=by simpa using h
  subst e;exact ⟨fs,rfl⟩
 ·cases h
section
variable {a b:Int} {v1 v2:Value} {w:World}
theorem GL {f:FuncId} {R:Ending→World→Prop} (h1:Z4.IsZ w v1 a) (h2:Z4.IsZ w v2 b) (ka:a.natAbs<B64 ^ K1) (kb:b.natAbs<B64 ^ K1)
  (go:∀ ρ:Env,(∀ g∈[Fd.l 0 (.v 0) K1,.l 1 (.v 1) K1],Fd.on (bet [((a.natAbs:Nat):Rat),((b.natAbs:Nat):Rat)]) ρ g w)→Calls Tryz.prog f ([.e (.a [.bl (decide (a<0)),.os 0]),.e (.a [.bl (decide (b<0)),.os 1])].map (SV.den ρ)).toArray w R):Calls Tryz.prog f #[v1,v2] w R:=by
 obtain ⟨p1,l1,c1,xs,rfl,L1,dx,tx,hv1⟩:=h1
 obtain ⟨p2,l2,c2,ys,rfl,L2,dy,ty,hv2⟩:=h2
 refine go (ev [⟨false,0,p1,l1,c1,.empty,0⟩,⟨false,0,p2,l2,c2,.empty,0⟩]) fun g hg=>?_
 simp only [List.mem_cons,List.not_mem_nil,or_false] at hg
 rcases hg with rfl | rfl
 ·exact ⟨xs,L1,dx,tx,by rw [hv1];rfl,by rw [hv1];exact ka⟩
 ·exact ⟨ys,L2,dy,ty,by rw [hv2];rfl,by rw [hv2];exact kb⟩
theorem mg {β:Nat→Rat} {h:Hint} (ok:h.Ok β) {fuel:Nat} {f:FuncId} {args:List SV} {fs:List Fd} {n0:Nat} {ρ:Env} {t:Bool} {e:RE} {z:Int} (hr:isY t e (iZ Tryz.prog (SR β) (HR β) (cz β h) fuel f args fs n0)=true) (hE:EV w) (hf:∀ g∈fs,Fd.on β ρ g w)
  (hz:∀ n:Nat,((n:Nat):Rat)=e.ev β→n=z.natAbs∧t=decide (z<0)):Calls Tryz.prog f (args.map (SV.den ρ)).toArray w (Z4.iP w z):=by
 obtain ⟨s,fs',k,heq,ha⟩:=NZ hr
 refine (jS mixed (Dx ok) heq (jC hE) hf).mono fun x W' ⟨ρ',_,hx,hb,hfs⟩=>?_
 obtain ⟨xs,g1,g2,g3,g4,g5⟩:=hfs _ (iW ha)
 obtain ⟨h1,h2⟩:=hz _ g4
 exact ⟨_,hx,⟨_,_,_,xs,by rw [h2];rfl,g1,g2,g3,h1⟩,hb⟩
theorem lW {β:Nat→Rat} {h:Hint} (ok:h.Ok β) {fuel:Nat} {f:FuncId} {args:List SV} {fs:List Fd} {n0:Nat} {ρ:Env} {y:Int} (hr:isJ y (iZ Tryz.prog (SR β) (HR β) (cz β h) fuel f args fs n0)=true) (hE:EV w) (hf:∀ g∈fs,Fd.on β ρ g w):Calls Tryz.prog f (args.map (SV.den ρ)).toArray w (dh w (.int .i64 y)):=by
 obtain ⟨fs',heq⟩:=Ef hr
 exact (jS mixed (Dx ok) heq (jC hE) hf).mono fun x W' ⟨ρ',_,hx,hb,_⟩=>⟨hx,hb⟩
theorem jM {β:Nat→Rat} {l:List (RE×RE×Int)} {nz:List RE} {eq:List (RE×RE)} (h:∀ p∈l,aY (p.1.ev β) (p.2.1.ev β)=p.2.2) (h2:∀ p∈nz,p.ev β≠0) (h3:∀ p∈eq,p.1.ev β=p.2.ev β):Hint.Ok β { cm:=l,nz:=nz,eq:=eq }:=
 ⟨h3,fun p h=>(by cases h),h2,fun p h=>(by cases h),h⟩
abbrev x0:RE:=.v 0
abbrev x1:RE:=.v 1
theorem qA {m n k:Nat} (h:((k:Nat):Rat)=((m:Nat):Rat) - ((n:Nat):Rat)):(k:Int)=m - n:=by
 have:((k+n:Nat):Rat)=((m:Nat):Rat):=by rw [Rat.natCast_add,h];grind
 have:k+n=m:=by exact_mod_cast this
 omega
theorem EH {m n k:Nat} (h:((k:Nat):Rat)=((m:Nat):Rat)+((n:Nat):Rat)):k=m+n:=by
 rw [← Rat.natCast_add] at h
 exact_mod_cast h
theorem Gx {m n:Nat} (h:m≠n):((m:Nat):Rat) - ((n:Nat):Rat)≠0:=fun e=>h (by
 have:((m:Nat):Rat)=((n:Nat):Rat):=by grind
 exact_mod_cast this)
theorem uG (m n:Nat):(aY (m:Rat) (n:Rat)=1∧aY (n:Rat) (m:Rat) = -1∧n<m)∨(aY (m:Rat) (n:Rat)=0∧aY (n:Rat) (m:Rat)=0∧m=n)∨(aY (m:Rat) (n:Rat) = -1∧aY (n:Rat) (m:Rat)=1∧m<n):=by
 rw [uI,uI]
 unfold aI
 rcases Nat.lt_trichotomy m n with h | h | h
 ·right;right;rw [if_pos h,if_neg (by omega),if_neg (by omega)];exact ⟨rfl,rfl,h⟩
 ·right;left;subst h;simp
 ·left;rw [if_neg (by omega),if_neg (by omega),if_pos h];exact ⟨rfl,rfl,h⟩
theorem U0 (h1:Z4.IsZ w v1 a) (h2:Z4.IsZ w v2 b) (ka:a.natAbs<B64 ^ K1) (kb:b.natAbs<B64 ^ K1) (hE:EV w):Calls Tryz.prog 118 #[v1,v2] w (Z4.iP w (a+b)):=by
 refine GL h1 h2 ka kb fun ρ hg=>?_
 obtain ⟨β,hβ⟩:∃ β,β=bet [((a.natAbs:Nat):Rat),((b.natAbs:Nat):Rat)]:=⟨_,rfl⟩
 have e0:RE.ev β x0=((a.natAbs:Nat):Rat):=by rw [hβ];rfl
 have e1:RE.ev β x1=((b.natAbs:Nat):Rat):=by rw [hβ];rfl
 rw [← hβ] at hg
 have hadd:RE.ev β (.add x0 x1)=((a.natAbs:Nat):Rat)+((b.natAbs:Nat):Rat):=by rw [RE.ev,e0,e1]
 have hsub:RE.ev β (.sub x0 x1)=((a.natAbs:Nat):Rat) - ((b.natAbs:Nat):Rat):=by rw [RE.ev,e0,e1]
 have hbus:RE.ev β (.sub x1 x0)=((b.natAbs:Nat):Rat) - ((a.natAbs:Nat):Rat):=by rw [RE.ev,e0,e1]
 clear hβ
 rcases Int.lt_or_le a 0 with ha | ha <;> rcases Int.lt_or_le b 0 with hb | hb
 ·rw [decide_eq_true ha,decide_eq_true hb]
  have ok:Hint.Ok β { nz:=[.add x0 x1] }:=jM (fun p h=>by cases h) (fun p hp=>by simp at hp;subst hp;rw [hadd,← Rat.natCast_add];intro h;exact absurd (show a.natAbs+b.natAbs=0 by exact_mod_cast h) (by omega)) (fun p h=>by cases h)
  refine mg (t:=true) (e:=.add x0 x1) ok (fuel:=1) (n0:=2) (by kernel_rfl) hE hg fun n hn=>?_
  rw [hadd] at hn
  have:=EH hn
  exact ⟨by omega,(decide_eq_true (by omega)).symm⟩
 ·rw [decide_eq_true ha,decide_eq_false (by omega)]
  rcases uG a.natAbs b.natAbs with ⟨h3,h4,h5⟩ | ⟨h3,h4,h5⟩ | ⟨h3,h4,h5⟩
  ·have ok:Hint.Ok β { cm:=[(x0,x1,1)],nz:=[.sub x0 x1] }:=jM (fun p hp=>by simp at hp;subst hp;rw [e0,e1];exact h3) (fun p hp=>by simp at hp;subst hp;rw [hsub];exact Gx (by omega)) (fun p h=>by cases h)
   refine mg (t:=true) (e:=.sub x0 x1) ok (fuel:=1) (n0:=2) (by kernel_rfl) hE hg fun n hn=>?_
   rw [hsub] at hn
   have:=qA hn
   exact ⟨by omega,(decide_eq_true (by omega)).symm⟩
  ·have ok:Hint.Ok β { cm:=[(x0,x1,0)],eq:=[(.sub x0 x1,.c 0)] }:=jM (fun p hp=>by simp at hp;subst hp;rw [e0,e1];exact h3) (fun p h=>by cases h) (fun p hp=>by simp at hp;subst hp;rw [hsub,h5];simp [RE.ev];grind)
   refine mg (t:=false) (e:=.sub x0 x1) ok (fuel:=1) (n0:=2) (by kernel_rfl) hE hg fun n hn=>?_
   rw [hsub] at hn
   have:=qA hn
   exact ⟨by omega,(decide_eq_false (by omega)).symm⟩
  ·have ok:Hint.Ok β { cm:=[(x0,x1,-1),(x1,x0,1)] }:=jM (fun p hp=>by simp at hp;rcases hp with rfl | rfl <;> rw [e0,e1] <;> assumption) (fun p h=>by cases h) (fun p h=>by cases h)
   refine mg (t:=false) (e:=.sub x1 x0) ok (fuel:=1) (n0:=2) (by kernel_rfl) hE hg fun n hn=>?_
   rw [hbus] at hn
   have:=qA hn
   exact ⟨by omega,(decide_eq_false (by omega)).symm⟩
 ·rw [decide_eq_false (by omega),decide_eq_true hb]
  rcases uG a.natAbs b.natAbs with ⟨h3,h4,h5⟩ | ⟨h3,h4,h5⟩ | ⟨h3,h4,h5⟩
  ·have ok:Hint.Ok β { cm:=[(x0,x1,1)] }:=jM (fun p hp=>by simp at hp;subst hp;rw [e0,e1];exact h3) (fun p h=>by cases h) (fun p h=>by cases h)
   refine mg (t:=false) (e:=.sub x0 x1) ok (fuel:=1) (n0:=2) (by kernel_rfl) hE hg fun n hn=>?_
   rw [hsub] at hn
   have:=qA hn
   exact ⟨by omega,(decide_eq_false (by omega)).symm⟩
  ·have ok:Hint.Ok β { cm:=[(x0,x1,0)] }:=jM (fun p hp=>by simp at hp;subst hp;rw [e0,e1];exact h3) (fun p h=>by cases h) (fun p h=>by cases h)
   refine mg (t:=false) (e:=.sub x0 x1) ok (fuel:=1) (n0:=2) (by kernel_rfl) hE hg fun n hn=>?_
   rw [hsub] at hn
   have:=qA hn
   exact ⟨by omega,(decide_eq_false (by omega)).symm⟩
  ·have ok:Hint.Ok β { cm:=[(x0,x1,-1),(x1,x0,1)],nz:=[.sub x1 x0] }:=jM (fun p hp=>by simp at hp;rcases hp with rfl | rfl <;> rw [e0,e1] <;> assumption) (fun p hp=>by simp at hp;subst hp;rw [hbus];exact Gx (by omega)) (fun p h=>by cases h)
   refine mg (t:=true) (e:=.sub x1 x0) ok (fuel:=1) (n0:=2) (by kernel_rfl) hE hg fun n hn=>?_
   rw [hbus] at hn
   have:=qA hn
   exact ⟨by omega,(decide_eq_true (by omega)).symm⟩
 ·rw [decide_eq_false (by omega),decide_eq_false (by omega)]
  refine mg (t:=false) (e:=.add x0 x1) (iw β) (fuel:=1) (n0:=2) (by kernel_rfl) hE hg fun n hn=>?_
  rw [hadd] at hn
  have:=EH hn
  exact ⟨by omega,(decide_eq_false (by omega)).symm⟩
theorem U1 (h1:Z4.IsZ w v1 a) (h2:Z4.IsZ w v2 b) (ka:a.natAbs<B64 ^ K1) (kb:b.natAbs<B64 ^ K1) (hE:EV w):Calls Tryz.prog 124 #[v1,v2] w (dh w (.int .i64 (if a<b then -1 else if a=b then 0 else 1))):=by
 obtain ⟨y,hy⟩:∃ y:Int,(if a<b then -1 else if a=b then 0 else 1)=y:=⟨_,rfl⟩
 rw [hy]
 refine GL h1 h2 ka kb fun ρ hg=>?_
 obtain ⟨β,hβ⟩:∃ β,β=bet [((a.natAbs:Nat):Rat),((b.natAbs:Nat):Rat)]:=⟨_,rfl⟩
 have e0:RE.ev β x0=((a.natAbs:Nat):Rat):=by rw [hβ];rfl
 have e1:RE.ev β x1=((b.natAbs:Nat):Rat):=by rw [hβ];rfl
 rw [← hβ] at hg
 clear hβ
 have okc:∀ (x y:RE) (c:Int),aY (x.ev β) (y.ev β)=c→Hint.Ok β { cm:=[(x,y,c)] }:=fun x y c h=>jM (fun p hp=>by simp at hp;subst hp;exact h) (fun p h=>by cases h) (fun p h=>by cases h)
 rcases Int.lt_or_le a 0 with ha | ha <;> rcases Int.lt_or_le b 0 with hb | hb
 ·rw [decide_eq_true ha,decide_eq_true hb]
  rcases uG a.natAbs b.natAbs with ⟨h3,h4,h5⟩ | ⟨h3,h4,h5⟩ | ⟨h3,h4,h5⟩
  ·obtain rfl:y = -1:=by rw [← hy,if_pos (by omega)]
   exact lW (okc x1 x0 (-1) (by rw [e0,e1];exact h4)) (fuel:=1) (n0:=2) (by kernel_rfl) hE hg
  ·obtain rfl:y=0:=by rw [← hy,if_neg (by omega),if_pos (by omega)]
   exact lW (okc x1 x0 0 (by rw [e0,e1];exact h4)) (fuel:=1) (n0:=2) (by kernel_rfl) hE hg
  ·obtain rfl:y=1:=by rw [← hy,if_neg (by omega),if_neg (by omega)]
   exact lW (okc x1 x0 1 (by rw [e0,e1];exact h4)) (fuel:=1) (n0:=2) (by kernel_rfl) hE hg
 ·rw [decide_eq_true ha,decide_eq_false (by omega)]
  obtain rfl:y = -1:=by rw [← hy,if_pos (by omega)]
  exact lW (iw β) (fuel:=1) (n0:=2) (by kernel_rfl) hE hg
 ·rw [decide_eq_false (by omega),decide_eq_true hb]
  obtain rfl:y=1:=by rw [← hy,if_neg (by omega),if_neg (by omega)]
  exact lW (iw β) (fuel:=1) (n0:=2) (by kernel_rfl) hE hg
 ·rw [decide_eq_false (by omega),decide_eq_false (by omega)]
  rcases uG a.natAbs b.natAbs with ⟨h3,h4,h5⟩ | ⟨h3,h4,h5⟩ | ⟨h3,h4,h5⟩
  ·obtain rfl:y=1:=by rw [← hy,if_neg (by omega),if_neg (by omega)]
   exact lW (okc x0 x1 1 (by rw [e0,e1];exact h3)) (fuel:=1) (n0:=2) (by kernel_rfl) hE hg
  ·obtain rfl:y=0:=by rw [← hy,if_neg (by omega),if_pos (by omega)]
   exact lW (okc x0 x1 0 (by rw [e0,e1];exact h3)) (fuel:=1) (n0:=2) (by kernel_rfl) hE hg
  ·obtain rfl:y = -1:=by rw [← hy,if_pos (by omega)]
   exact lW (okc x0 x1 (-1) (by rw [e0,e1];exact h3)) (fuel:=1) (n0:=2) (by kernel_rfl) hE hg
end
end Rx
end Go.Proofs.YtnmlkobogofadaaGreatDoor
