/- What the proof rests on, part 36. -/
import Derived.Test.YtnmlkobogofadaaGreatDoorP35
import Derived.Test.YtnmlkobogofadaaGreatDoorP30
import Derived.Test.YtnmlkobogofadaaGreatDoorP20
namespace Go.Proofs.YtnmlkobogofadaaGreatDoor
set_option maxRecDepth 100000
set_option maxHeartbeats 80000000
namespace Z4
open Go.RowKit Go.Sort Go.Lib
theorem xM (z:Int) (v:Value) (w:World) (h:IsZ w v z) (k:Nat) (hk:k≤1073741824) (ka:z.natAbs<B64 ^ k):Calls Tryz.prog 172 #[v] w (fJ w (gB z)):=by
 obtain ⟨p,l,c,xs,rfl,hl,dx,tx,hv⟩:=h
 have hlen:=hl.len
 rcases Nat.eq_zero_or_pos xs.length with h0 | h0
 ·have hz:=(qj dx tx).1 h0
  have e0:z=0:=by omega
  have el:l=0:=by omega
  subst e0;subst el
  have:=FT (decide ((0:Int)<0)) p c w
  rwa [show gB 0=[48] by unfold gB;rw [if_neg (by decide),decDigits];rfl]
 ·have hz:0<val xs:=by
   rcases Nat.eq_zero_or_pos (val xs) with h | h
   ·have:=(qj dx tx).2 h;omega
   ·exact h
  have hle:xs.length≤5*k:=dw tx (Nat.lt_of_lt_of_le (by rw [hv];exact ka) (by rw [Nat.pow_mul];exact Nat.pow_le_pow_left (by decide) k))
  rcases hl with ⟨he,rfl⟩ | ⟨b,o,k',he,-,hb,-,hi⟩
  ·simp at h0
  ·injection he with e1 e2 e3
   subst e1;subst e2;subst e3
   have:=KY (decide (z<0)) b o c xs w hb hi dx hz (by omega)
   rw [hv] at this
   unfold gB
   by_cases hz0:z<0
   ·rw [decide_eq_true hz0] at this ⊢
    rw [if_pos rfl] at this
    rw [if_pos hz0];exact this
   ·rw [decide_eq_false hz0] at this ⊢
    rw [if_neg (by decide)] at this
    rw [if_neg hz0];exact this
theorem EP (n:Nat):decDigits n=[49]↔n=1:=by
 constructor
 ·intro h
  by_cases h10:n<10
  ·rw [decDigits,dif_pos h10] at h
   have h1:UInt8.ofNat (48+n)=49:=by simpa using h
   have h2:=congrArg UInt8.toNat h1
   rw [UInt8.toNat_ofNat'] at h2
   have:(49:UInt8).toNat=49:=rfl
   omega
  ·rw [decDigits,dif_neg h10] at h
   have h1:=congrArg List.length h
   rw [List.length_append] at h1
   obtain ⟨x,r,h2,-⟩:=Dq (n:=n / 10) (by omega)
   rw [h2] at h1
   simp at h1
 ·rintro rfl;rw [decDigits];rfl
theorem Tv (r:Rat):gJ r=if decDigits r.den=[49] then gB r.num else gB r.num ++ (47 :: gB (r.den:Int)):=by
 unfold gJ gB
 rw [if_neg (show ¬ ((r.den:Int)<0) by omega),List.nil_append,Int.natAbs_natCast]
 by_cases h:r.den=1
 ·rw [if_pos h,if_pos ((EP _).2 h),List.append_nil]
 ·rw [if_neg h,if_neg (fun e=>h ((EP _).1 e))]
theorem UZ (r:Rat) (v:Value) (w:World) (h:IsR w v r) (k:Nat) (hk:k≤1073741824) (hf:Fits k r):Calls Tryz.prog 121 #[v] w (fJ w (gJ r)):=by
 obtain ⟨t1,p1,l1,k1,r1,s1,u1,rfl⟩:=h.open
 have HN:=hid (fun (W:World) (a:IsZ W (.agg #[.bool t1,.slice p1 l1 k1]) r.num)=>xM _ _ W a k hk hf.1)
 have HM:=hid (fun (W:World) (v:Value) (a:IsZ W v (r.den:Int))=>xM _ v W a k hk (by rw [Int.natAbs_natCast];exact hf.2))
 have HD:=hid (fun (W:World) (a:IsZ W (.agg #[.bool t1,.slice p1 l1 k1]) r.num) (b:IsZ W (.agg #[.bool false,.slice r1 s1 u1]) (r.den:Int))=>wz r _ W (.mk2 a b))
 have h1:=o7 _ k hf.1 hk
 have h2:=o7 _ k hf.2 hk
 have e2:gB (r.den:Int)=decDigits r.den:=by
  unfold gB
  rw [if_neg (show ¬ ((r.den:Int)<0) by omega),List.nil_append,Int.natAbs_natCast]
 have hD:(gB r.num).length≤21474836482:=by unfold gB;rw [List.length_append];split <;> simp <;> omega
 have hE:(gB (r.den:Int)).length≤21474836481:=by rw [e2];exact h2
 have hT:=Tv r
 rw [← e2] at hT
 have hn:=h.num
 have hd:=h.d
 obtain ⟨D,hD1⟩:∃ D,gB r.num=D:=⟨_,rfl⟩
 obtain ⟨E,hE1⟩:∃ E,gB (r.den:Int)=E:=⟨_,rfl⟩
 obtain ⟨T,hT1⟩:∃ T,gJ r=T:=⟨_,rfl⟩
 rw [hD1] at HN hD hT
 rw [hE1] at HM hE hT
 rw [hT1] at hT ⊢
 clear hD1 hE1 hT1 e2 h h1 h2 hf
 have HI:=hid (And.intro hn hd)
 clear hn hd
 have HT:=hid hT
 clear hT
 go_enter Tryz.func121,Tryz.ntmps121
 go_wp2_with fail
 have hS0:=hid ((St.start w).alloc' (w.heap.size) (by simp) 40 [.bool t1,.slice p1 l1 k1,.bool false,.slice r1 s1 u1])
 obtain ⟨W0,hW0⟩:=aP hS0
 rw [hW0] at hS0 ⊢
 clear hW0
 have hS1:=hid ((hS0.out.fact (.z (.agg #[.bool t1,.slice p1 l1 k1]) r.num) (HI.out.1.below hS0.out.bel)).fact (.z (.agg #[.bool false,.slice r1 s1 u1]) (r.den:Int)) (HI.out.2.below hS0.out.bel))
 clear hS0 HI
 obtain ⟨⟨cR0,cR1,cR2,cR3⟩,fR0,fR1,fR2,fR3⟩:=hS1.out.f4 0 w.heap.size 40 (.bool t1) (.slice p1 l1 k1) (.bool false) (.slice r1 s1 u1) rfl
 go_wp2_with fail
 clear cR0 cR1 cR2 cR3 fR0 fR1 fR2 fR3
 refine (HN.out _ (hS1.out.get (f:=.z (.agg #[.bool t1,.slice p1 l1 k1]) r.num) 1 rfl)).mono ?_
 rintro e w1 ⟨rfl,hB⟩
 have hS2:=hid (hS1.out.call hB)
 clear hS1 hB
 obtain ⟨⟨cR0,cR1,cR2,cR3⟩,fR0,fR1,fR2,fR3⟩:=hS2.out.f4 0 w.heap.size 40 (.bool t1) (.slice p1 l1 k1) (.bool false) (.slice r1 s1 u1) rfl
 go_wp2_with fail
 clear cR0 cR1 cR2 cR3 fR0 fR1 fR2 fR3
 refine (HD.out _ (hS2.out.get (f:=.z (.agg #[.bool t1,.slice p1 l1 k1]) r.num) 1 rfl) (hS2.out.get (f:=.z (.agg #[.bool false,.slice r1 s1 u1]) (r.den:Int)) 0 rfl)).mono ?_
 rintro e w2 ⟨v2,rfl,hz2,hB⟩
 have hS3:=hid (hS2.out.call hB)
 clear hS2 hB
 obtain ⟨t2,p2,l2,k2,rfl⟩:=hz2.open
 have hZ:=hid hz2
 clear hz2
 go_wp2_with fail
 refine (HM.out _ _ hZ.out).mono ?_
 rintro e w3 ⟨rfl,hB⟩
 have hS4:=hid (hS3.out.call hB)
 clear hS3 hB hZ
 by_cases he:E=[49]
 ·subst he
  have hT2:=HT.out
  rw [if_pos rfl] at hT2
  subst hT2
  go_wp2
  go_ret
  exact ⟨rfl,hS4.out.bel⟩
 ·have hT2:=HT.out
  rw [if_neg he] at hT2
  have hb:(E == [49])=false:=by simpa using he
  have HT2:=hid hT2
  clear hT2 he HT
  go_wp2
  go_ret
  refine ⟨?_,hS4.out.bel⟩
  rw [HT2.out]
  refine congrArg (fun s=>Ending.returned (Value.string s)) ?_
  apply ByteArray.ext
  simp [ByteArray.data_append]
end Z4
namespace Rx
open Go.RowKit
inductive At
 | q
 | r
 | o
def At.n:At→Nat
 | .q=>5
 | _=>4
def Qu:List Cell:=[.bl false,.nils,.bl false,.nils]
def At.cells:At→Nat→List Cell
 | .q,s=>aS s
 | .r,s=>bg s
 | .o,_=>Qu
def At.fact:At→Nat→RE→Nat→List Fc
 | .q,s,e,k=>[.q s e k]
 | .r,s,e,k=>[.r s e k]
 | .o,_,_,_=>[]
def vU:List Cell→Option (RE×Nat)
 | [.bl false,.nils,.bl false,.nils]=>some (.c 0,0)
 | _=>none
def At.parse (db:List Fc):At→List Cell→Option (RE×Nat)
 | .q,cs=>fO db cs
 | .r,cs=>jg db cs
 | .o,cs=>vU cs
section
variable {β β':Nat→Rat} {ρ:Env} {W:World} {db:List Fc}
theorem At.name {a:At} {cs:List Cell} {e:RE} {k:Nat} (h:a.parse db cs=some (e,k)) (hf:∀ f∈db,(SQ β).on ρ f W):∃ c d:Nv,∀ (ρ':Env) s,ρ' s=c→ρ' (s+1)=d →
  (a.cells s).map (Cell.den ρ')=cs.map (Cell.den ρ)∧∀ (β':Nat→Rat) e' k',e'.ev β' = e.ev β→k≤k'→∀ f∈a.fact s e' k',(SQ β').on ρ' f W:=by
 cases a with
 | q =>
  obtain ⟨h1,c,d,h2⟩:=gG h hf
  refine ⟨c,d,fun ρ' s hc hd=>?_⟩
  have h3:(aS s).map (Cell.den ρ')=cs.map (Cell.den ρ):=by
   have:=congrArg Array.toList (Value.agg.inj h2)
   simp only at this
   rw [this]
   simp [aS,Cell.den,hc,hd]
  refine ⟨h3,fun β' e' k' he hk f hm=>?_⟩
  simp only [At.fact,List.mem_singleton] at hm
  subst hm
  show IsQ W (.agg ((aS s).map (Cell.den ρ')).toArray) (e'.ev β')∧Fits k' (e'.ev β')
  rw [h3,he]
  exact ⟨h1.1,h1.2.mono hk⟩
 | r =>
  obtain ⟨h1,h1'⟩:=jG h hf
  obtain ⟨c,d,h2⟩:=kR h1
  refine ⟨c,d,fun ρ' s hc hd=>?_⟩
  have h3:(bg s).map (Cell.den ρ')=cs.map (Cell.den ρ):=by
   have:=congrArg Array.toList (Value.agg.inj h2)
   simp only at this
   rw [this]
   simp [bg,Cell.den,hc,hd]
  refine ⟨h3,fun β' e' k' he hk f hm=>?_⟩
  simp only [At.fact,List.mem_singleton] at hm
  subst hm
  show Z4.IsR W (.agg ((bg s).map (Cell.den ρ')).toArray) (e'.ev β')∧Fits k' (e'.ev β')
  rw [h3,he]
  exact ⟨h1,h1'.mono hk⟩
 | o =>
  refine ⟨default,default,fun ρ' s _ _=>⟨?_,fun β' e' k' _ _ f hm=>by cases hm⟩⟩
  simp only [At.parse] at h
  unfold vU at h
  split at h
  ·rfl
  ·cases h
def iM (db:List Fc):List At→List Cell→Option (List (RE×Nat))
 | [],[]=>some []
 | [],_ :: _=>none
 | a :: r,cs=>match a.parse db (cs.take a.n),iM db r (cs.drop a.n) with
  | some x,some l=>some (x :: l)
  | _,_=>none
def oh:List At→Nat→List Cell
 | [],_=>[]
 | a :: r,s=>a.cells s ++ oh r (s+2)
def iy:List At→Nat→List (RE×Nat)→List Fc
 | a :: r,s,x :: l=>a.fact s x.1 x.2 ++ iy r (s+2) l
 | _,_,_=>[]
def rel (β' β:Nat→Rat):List (RE×Nat)→List (RE×Nat)→Prop
 | [],[]=>True
 | x :: l,y :: m=>(x.1.ev β' = y.1.ev β∧y.2≤x.2)∧rel β' β l m
 | _,_=>False
theorem EH {β' β:Nat→Rat}:∀ {a b:List (RE×Nat)} {l:List (RE×Nat)},rel β' β l (a ++ b)→rel β' β (l.take a.length) a∧rel β' β (l.drop a.length) b
 | [],b,l,h=>by simpa [rel] using h
 | x :: a,b,[],h=>by simp [rel] at h
 | x :: a,b,y :: l,h=>by
  obtain ⟨h1,h2⟩:(y.1.ev β' = x.1.ev β∧x.2≤y.2)∧rel β' β l (a ++ b):=h
  obtain ⟨h3,h4⟩:=EH h2
  exact ⟨⟨h1,h3⟩,h4⟩
theorem zk:∀ {t:List At} {cs:List Cell} {xs:List (RE×Nat)},iM db t cs=some xs→xs.length=t.length
 | [],[],xs,h=>by simp [iM] at h;subst h;rfl
 | [],_ :: _,xs,h=>by simp [iM] at h
 | a :: r,cs,xs,h=>by
  simp only [iM] at h
  split at h
  ·rename_i x l h1 h2
   cases h
   simp [zk h2]
  ·cases h
theorem AA (hf:∀ f∈db,(SQ β).on ρ f W):∀ {t:List At} {cs:List Cell} {xs:List (RE×Nat)},iM db t cs=some xs→∃ L:List Nv,L.length=2*t.length∧∀ (ρ':Env) s,(∀ i,i<2*t.length→ρ' (s+i)=L[i]?.getD default) →
  (oh t s).map (Cell.den ρ')=cs.map (Cell.den ρ)∧∀ (β':Nat→Rat) xs',rel β' β xs' xs→∀ f∈iy t s xs',(SQ β').on ρ' f W
 | [],[],xs,h=>⟨[],rfl,fun ρ' s _=>⟨rfl,fun β' xs' _ f hm=>by simp [iy] at hm⟩⟩
 | [],_ :: _,xs,h=>by simp [iM] at h
 | a :: r,cs,xs,h=>by
  simp only [iM] at h
  split at h
  ·rename_i x l h1 h2
   cases h
   obtain ⟨c,d,h3⟩:=At.name (e:=x.1) (k:=x.2) h1 hf
   obtain ⟨L,h4,h5⟩:=AA hf h2
   refine ⟨c :: d :: L,by simp [h4];omega,fun ρ' s hρ=>?_⟩
   have c0:=hρ 0 (by simp <;> omega)
   have d0:=hρ 1 (by simp <;> omega)
   obtain ⟨g1,g2⟩:=h3 ρ' s (by simpa using c0) (by simpa using d0)
   obtain ⟨g3,g4⟩:=h5 ρ' (s+2) (fun i hi=>by
    have:=hρ (2+i) (by simp <;> omega)
    rw [← Nat.add_assoc,show 2+i=i+1+1 by omega] at this
    simpa using this)
   refine ⟨?_,fun β' xs' hr f hm=>?_⟩
   ·simp only [oh,List.map_append,g1,g3]
    rw [← List.map_append,List.take_append_drop]
   ·cases xs' with
    | nil=>simp [rel] at hr
    | cons y l' =>
     obtain ⟨⟨r1,r2⟩,r3⟩:=hr
     simp only [iy,List.mem_append] at hm
     rcases hm with hm | hm
     ·exact g2 β' _ _ r1 r2 f hm
     ·exact g4 β' l' r3 f hm
  ·cases h
def jE (db:List Fc):List (List At)→List SV→Option (List (RE×Nat))
 | [],[]=>some []
 | t :: r,.e (.a cs) :: l=>match iM db t cs,jE db r l with
  | some x,some y=>some (x ++ y)
  | _,_=>none
 | _,_=>none
def tV:List (List At)→Nat→List SV
 | [],_=>[]
 | t :: r,s=>.e (.a (oh t s)) :: tV r (s+2*t.length)
theorem Gx:∀ {t r:List At} {s:Nat} {xs:List (RE×Nat)} {f:Fc},f∈iy (t ++ r) s xs→f∈iy t s (xs.take t.length)∨f∈iy r (s+2*t.length) (xs.drop t.length)
 | [],r,s,xs,f,h=>.inr (by simpa using h)
 | a :: t,r,s,[],f,h=>by simp [iy] at h
 | a :: t,r,s,x :: xs,f,h=>by
  simp only [List.cons_append,iy,List.mem_append] at h
  simp only [List.length_cons,List.take_succ_cons,List.drop_succ_cons,iy,List.mem_append]
  rcases h with h | h
  ·exact .inl (.inl h)
  ·rcases Gx h with h | h
   ·exact .inl (.inr h)
   ·exact .inr (by rwa [show s+2*(t.length+1)=s+2+2*t.length by omega])
theorem FQ:∀ {ts:List (List At)} {args:List SV} {xs:List (RE×Nat)},jE db ts args=some xs→xs.length=ts.flatten.length
 | [],[],xs,h=>by simp [jE] at h;subst h;rfl
 | [],_ :: _,xs,h=>by simp [jE] at h
 | t :: r,[],xs,h=>by simp [jE] at h
 | t :: r,x :: l,xs,h=>by
  unfold jE at h
  split at h
  ·rename_i heq _;cases heq
  ·rename_i heq1 heq2
   cases heq1;cases heq2
   split at h
   ·rename_i x y g1 g2
    cases h
    simp [zk g1,FQ g2]
   ·cases h
  ·cases h
theorem Iz (hf:∀ f∈db,(SQ β).on ρ f W):∀ {ts:List (List At)} {args:List SV} {xs:List (RE×Nat)},jE db ts args=some xs→∃ L:List Nv,L.length=2*ts.flatten.length∧∀ (ρ':Env) s,(∀ i,i<2*ts.flatten.length→ρ' (s+i)=L[i]?.getD default) →
  (tV ts s).map (SV.den ρ')=args.map (SV.den ρ)∧∀ (β':Nat→Rat) xs',rel β' β xs' xs→∀ f∈iy ts.flatten s xs',(SQ β').on ρ' f W
 | [],[],xs,h=>⟨[],rfl,fun ρ' s _=>⟨rfl,fun β' xs' _ f hm=>by simp [iy] at hm⟩⟩
 | [],_ :: _,xs,h=>by simp [jE] at h
 | t :: r,[],xs,h=>by simp [jE] at h
 | t :: r,x :: l,xs,h=>by
  unfold jE at h
  split at h
  ·rename_i heq _;cases heq
  ·rename_i _ _ cs _ heq1 heq2
   cases heq1;cases heq2
   split at h
   ·rename_i x y h1 h2
    cases h
    obtain ⟨L,h3,h4⟩:=AA hf h1
    obtain ⟨L',h5,h6⟩:=Iz hf h2
    refine ⟨L ++ L',by simp [h3,h5,Nat.mul_add],fun ρ' s hρ=>?_⟩
    obtain ⟨g1,g2⟩:=h4 ρ' s (fun i hi=>by
     have:=hρ i (by simp <;> omega)
     rwa [List.getElem?_append_left (by omega)] at this)
    obtain ⟨g3,g4⟩:=h6 ρ' (s+2*t.length) (fun i hi=>by
     have:=hρ (2*t.length+i) (by simp;simp at hi;omega)
     rw [List.getElem?_append_right (by omega),h3,Nat.add_sub_cancel_left,← Nat.add_assoc] at this
     exact this)
    refine ⟨?_,fun β' xs' hr f hm=>?_⟩
    ·simp only [tV,List.map_cons,g3]
     congr 1
     simp only [SV.den,El.den,g1]
    ·obtain ⟨r1,r2⟩:=EH hr
     rw [zk h1] at r1 r2
     rcases Gx (t:=t) (r:=r.flatten) (by simpa using hm) with hm | hm
     ·exact g2 β' _ r1 f hm
     ·exact g4 β' _ r2 f hm
   ·cases h
  ·cases h
end
def RE.sub' (es:List RE):RE→RE
 | .v n=>es.getD n (.c 0)
 | .c n=>.c n
 | .add a b=>.add (a.sub' es) (b.sub' es)
 | .sub a b=>.sub (a.sub' es) (b.sub' es)
 | .mul a b=>.mul (a.sub' es) (b.sub' es)
 | .div a b=>.div (a.sub' es) (b.sub' es)
 | .neg a=>.neg (a.sub' es)
 | .abs a=>.abs (a.sub' es)
 | .flo a=>.flo (a.sub' es)
 | .num a=>.num (a.sub' es)
 | .den a=>.den (a.sub' es)
def put (β:Nat→Rat) (es:List RE):Nat→Rat:=fun n=>(es.getD n (.c 0)).ev β
theorem ku {β:Nat→Rat} {es:List RE} (e:RE):(e.sub' es).ev β=e.ev (put β es):=by
 induction e with
 | v n=>rfl
 | c n=>rfl
 | add a b ih1 ih2=>show (a.sub' es).ev β+(b.sub' es).ev β=_;rw [ih1,ih2];rfl
 | sub a b ih1 ih2=>show (a.sub' es).ev β - (b.sub' es).ev β=_;rw [ih1,ih2];rfl
 | mul a b ih1 ih2=>show (a.sub' es).ev β*(b.sub' es).ev β=_;rw [ih1,ih2];rfl
 | div a b ih1 ih2=>show (a.sub' es).ev β / (b.sub' es).ev β=_;rw [ih1,ih2];rfl
 | neg a ih=>show -(a.sub' es).ev β=_;rw [ih];rfl
 | abs a ih=>show (if ((a.sub' es).ev β).num<0 then -(a.sub' es).ev β else (a.sub' es).ev β)=_;rw [ih];rfl
 | flo a ih=>show ((((a.sub' es).ev β).num / (((a.sub' es).ev β).den:Int):Int):Rat)=_;rw [ih];rfl
 | num a ih=>show (((a.sub' es).ev β).num:Rat)=_;rw [ih];rfl
 | den a ih=>show (((((a.sub' es).ev β).den:Nat):Int):Rat)=_;rw [ih];rfl
def RE.plain:RE→RE
 | .sub a b=>.add a.plain (.neg b.plain)
 | .add a b=>.add a.plain b.plain
 | .mul a b=>.mul a.plain b.plain
 | .div a b=>.div a.plain b.plain
 | .neg a=>.neg a.plain
 | e=>e
theorem Il {β:Nat→Rat} (e:RE):e.plain.ev β=e.ev β:=by
 induction e with
 | add a b ih1 ih2=>show a.plain.ev β+b.plain.ev β=_;rw [ih1,ih2];rfl
 | sub a b ih1 ih2=>show a.plain.ev β + -b.plain.ev β=a.ev β - b.ev β;rw [ih1,ih2,Rat.sub_eq_add_neg]
 | mul a b ih1 ih2=>show a.plain.ev β*b.plain.ev β=_;rw [ih1,ih2];rfl
 | div a b ih1 ih2=>show a.plain.ev β / b.plain.ev β=_;rw [ih1,ih2];rfl
 | neg a ih=>show -a.plain.ev β=_;rw [ih];rfl
 | _=>rfl
def alike (k:Nat):List RE→List (RE×Nat)→Bool
 | [],[]=>true
 | o :: l,y :: m=>(o.plain.beq y.1.plain && decide (y.2≤k)) && alike k l m
 | _,_=>false
theorem Hq {β:Nat→Rat} {es:List RE} {k:Nat}:∀ {os:List RE} {ys:List (RE×Nat)},alike k os ys=true→rel β (put β es) (os.map fun o=>(o.sub' es,k)) ys
 | [],[],_=>trivial
 | [],_ :: _,h=>by simp [alike] at h
 | _ :: _,[],h=>by simp [alike] at h
 | o :: os,y :: ys,h=>by
  simp only [alike,Bool.and_eq_true,decide_eq_true_eq] at h
  refine ⟨⟨?_,h.1.2⟩,Hq h.2⟩
  rw [ku,← Il o,RE.beq_eq h.1.1,Il]
inductive Rs
 | at (t:List At) (os:List RE)
 | atb (t:List At) (os:List RE) (x:Bool)
 | bl (x:Bool)
def Rs.sv (b:Nat):Rs→SV
 | .at t _=>.e (.a (oh t b))
 | .atb t _ x=>.t [.a (oh t b),.s (.bl x)]
 | .bl x=>.e (.s (.bl x))
def Rs.fs (ko b:Nat) (es:List RE):Rs→List Fc
 | .at t os | .atb t os _=>iy t b (os.map fun o=>(o.sub' es,ko))
 | .bl _=>[]
def Rs.small:Rs→Bool
 | .at t _ | .atb t _ _=>decide (2*t.length≤M)
 | .bl _=>true
def outA (ko:Nat) (t:List At) (os:List RE):Option (SV×List Fc)→Bool
 | some (.e (.a cs),fs)=>match iM fs t cs with
  | some ys=>alike ko os ys
  | none=>false
 | _=>false
def A8 (ko:Nat) (t:List At) (os:List RE) (x:Bool):Option (SV×List Fc)→Bool
 | some (.t [.a cs,.s (.bl y)],fs)=>match iM fs t cs with
  | some ys=>x == y && alike ko os ys
  | none=>false
 | _=>false
def OC (ko:Nat):Rs→Option (SV×List Fc)→Bool
 | .at t os,o=>outA ko t os o
 | .atb t os x,o=>A8 ko t os x o
 | .bl x,o=>isB x o
theorem NM {ko:Nat} {t:List At} {os:List RE} {o:Option (SV×List Fc)} (h:outA ko t os o=true):∃ cs fs ys,o=some (.e (.a cs),fs)∧iM fs t cs=some ys∧alike ko os ys=true:=by
 unfold outA at h
 split at h
 ·split at h
  ·rename_i cs fs _ ys hp;exact ⟨cs,fs,ys,rfl,hp,h⟩
  ·cases h
 ·cases h
theorem LX {ko:Nat} {t:List At} {os:List RE} {x:Bool} {o:Option (SV×List Fc)} (h:A8 ko t os x o=true):∃ cs fs ys,o=some (.t [.a cs,.s (.bl x)],fs)∧iM fs t cs=some ys∧alike ko os ys=true:=by
 unfold A8 at h
 split at h
 ·split at h
  ·rename_i cs y fs _ ys hp
   simp only [Bool.and_eq_true,beq_iff_eq] at h
   exact ⟨cs,fs,ys,by rw [h.1],hp,h.2⟩
  ·cases h
 ·cases h
def hintB (h H0:Hint) (es:List RE):Bool:=
 H0.eq.all (fun p=>eqB h (p.1.sub' es) (p.2.sub' es)) && H0.ne.all (fun p=>h.ne.any fun x=>x.1.beq (p.1.sub' es) && x.2.beq (p.2.sub' es)) && H0.nz.all (fun p=>nzB h (p.sub' es)) && H0.sg.all (fun p=>sgB h (p.1.sub' es) == some p.2) && H0.cm.all (fun p=>cmB h (p.1.sub' es) (p.2.1.sub' es) == some p.2.2)
theorem RS {β:Nat→Rat} {h H0:Hint} {es:List RE} (hh:hintB h H0 es=true) (ok:h.Ok β):H0.Ok (put β es):=by
 unfold hintB at hh
 simp only [Bool.and_eq_true,List.all_eq_true] at hh
 obtain ⟨⟨⟨⟨h1,h2⟩,h3⟩,h4⟩,h5⟩:=hh
 refine ⟨fun p hp=>?_,fun p hp=>?_,fun p hp=>?_,fun p hp=>?_,fun p hp=>?_⟩
 ·rw [← ku,← ku];exact qR ok (h1 p hp)
 ·obtain ⟨x,hx,h6⟩:=List.any_eq_true.1 (h2 p hp)
  simp only [Bool.and_eq_true] at h6
  rw [← ku,← ku,← RE.beq_eq h6.1,← RE.beq_eq h6.2]
  exact ok.2.1 x hx
 ·rw [← ku];exact qB ok (h3 p hp)
 ·rw [← ku];exact Ad ok (by simpa using h4 p hp)
 ·rw [← ku,← ku];exact qJ ok (by simpa using h5 p hp)
def vars (k:Nat):Nat→Nat→List (RE×Nat)
 | _,0=>[]
 | i,n+1=>(.v i,k) :: vars k (i+1) n
theorem FP {β:Nat→Rat} {es:List RE} {k:Nat}:∀ {xs:List (RE×Nat)} {i:Nat},(∀ j x,xs[j]? = some x→(es.getD (i+j) (.c 0))=x.1∧x.2≤k)→rel (put β es) β (vars k i xs.length) xs
 | [],i,_=>trivial
 | x :: xs,i,h=>by
  have h0:=h 0 x rfl
  refine ⟨⟨?_,h0.2⟩,FP fun j y hy=>?_⟩
  ·show (es.getD i (.c 0)).ev β=_
   rw [← h0.1];rfl
  ·have:=h (j+1) y (by simpa using hy)
   rwa [show i+1+j=i+(j+1) by omega]
def bG (β:Nat→Rat) (h:Hint) (f:FuncId) (ins:List (List At)) (kin:Nat) (H0:Hint) (out:Rs) (ko:Nat):Con (SQ β) where
 fn:=f
 app:=fun db b args=>match jE db ins args with
  | some xs=>if xs.all (fun x=>decide (x.2≤kin)) && hintB h H0 (xs.map (·.1)) then some (out.sv b,out.fs ko b (xs.map (·.1))) else none
  | none=>none
theorem I7 {ko:Nat} {β γ:Nat→Rat} {es:List RE} {ρ ρ':Env} {W':World} {fs':List Fc} {t:List At} {cs:List Cell} {ys:List (RE×Nat)} {os:List RE} {b:Nat} (hg:γ=put β es) (hp:iM fs' t cs=some ys) (ha:alike ko os ys=true) (hs:2*t.length≤M) (hfs:∀ g∈fs',(SQ γ).on ρ' g W') :
  ∃ ρ'':Env,(∀ n,n<b∨b+M≤n→ρ'' n=ρ n)∧(oh t b).map (Cell.den ρ'')=cs.map (Cell.den ρ')∧∀ g∈iy t b (os.map fun o=>(o.sub' es,ko)),(SQ β).on ρ'' g W':=by
 subst hg
 obtain ⟨L,hL,hn⟩:=AA hfs hp
 obtain ⟨h1,h2⟩:=hn (aK ρ b L) b (fun i hi=>by
  unfold aK
  rw [if_pos (by omega),Nat.add_sub_cancel_left,List.getElem?_eq_getElem (by omega)];rfl)
 exact ⟨aK ρ b L,iZ (by omega),h1,h2 β _ (Hq ha)⟩
theorem bV {β:Nat→Rat} {h:Hint} {f:FuncId} {ins:List (List At)} {kin:Nat} {H0:Hint} {out:Rs} {ko:Nat} (ok:h.Ok β) (hs:out.small=true)
  (run:∀ γ:Nat→Rat,H0.Ok γ→∃ (H1:Hint) (ok1:H1.Ok γ) (fuel:Nat) (cons:List (Con (SQ γ))),(∀ c∈cons,c.Ok Tryz.prog (SQ γ) EV)∧OC ko out (jk Tryz.prog (SQ γ) (HQ γ H1 ok1) cons fuel f (tV ins 0) (iy ins.flatten 0 (vars kin 0 ins.flatten.length)) (2*ins.flatten.length))=true) :
  (bG β h f ins kin H0 out ko).Ok Tryz.prog (SQ β) EV:=by
 intro db b args res new ha ρ W hf hE
 simp only [bG] at ha
 split at ha
 ·rename_i xs hx
  split at ha
  ·rename_i hh
   simp only [Bool.and_eq_true,List.all_eq_true,decide_eq_true_eq] at hh
   cases ha
   obtain ⟨es,hes⟩:∃ es,xs.map (·.1)=es:=⟨_,rfl⟩
   rw [hes] at hh ⊢
   obtain ⟨H1,ok1,fuel,cons,hc,hr⟩:=run (put β es) (RS hh.2 ok)
   obtain ⟨L,hL,hn⟩:=Iz hf hx
   obtain ⟨h1,h2⟩:=hn (fun i=>L[i]?.getD default) 0 (fun i hi=>by simp)
   have hlen:=FQ hx
   have hfacts:=h2 (put β es) (vars kin 0 ins.flatten.length) (by
    rw [← hlen]
    refine FP fun j x hj=>⟨?_,hh.1 x (List.mem_of_getElem? hj)⟩
    rw [← hes,Nat.zero_add,List.getD_eq_getElem?_getD,List.getElem?_map,hj];rfl)
   rw [← h1]
   cases out with
   | «at» t os =>
    have hs':2*t.length≤M:=by simpa [Rs.small] using hs
    obtain ⟨cs,fs',ys,hrun,hp,hr⟩:=NM hr
    refine (jM mixed hc hrun (jK hE) hfacts).mono fun x W' ⟨ρ',_,hx',hb,hfs⟩=>?_
    obtain ⟨ρ'',a1,a2,a3⟩:=I7 (ρ:=ρ) (b:=b) rfl hp hr hs' hfs
    exact ⟨ρ'',a1,by rw [hx'];simp only [Rs.sv,SV.den,El.den,a2],hb,a3⟩
   | atb t os y =>
    have hs':2*t.length≤M:=by simpa [Rs.small] using hs
    obtain ⟨cs,fs',ys,hrun,hp,hr⟩:=LX hr
    refine (jM mixed hc hrun (jK hE) hfacts).mono fun x W' ⟨ρ',_,hx',hb,hfs⟩=>?_
    obtain ⟨ρ'',a1,a2,a3⟩:=I7 (ρ:=ρ) (b:=b) rfl hp hr hs' hfs
    exact ⟨ρ'',a1,by rw [hx'];simp only [Rs.sv,SV.den,El.den,List.map_cons,List.map_nil,a2];rfl,hb,a3⟩
   | bl y =>
    obtain ⟨fs',hrun⟩:=H9 hr
    refine (jM mixed hc hrun (jK hE) hfacts).mono fun x W' ⟨ρ',_,hx',hb,hfs⟩=>⟨ρ,fun _ _=>rfl,?_,hb,fun g hg=>by cases hg⟩
    rw [hx'];rfl
  ·cases ha
 ·cases ha
end Rx
namespace Z4
open Go.RowKit Go.Sort Go.Lib
theorem Nq (w:World):Calls Tryz.prog 125 #[.agg #[.bool false,.slice none 0 0,.bool false,.slice none 0 0]] w (jm w 1):=by
 have HN:=hid (fun (W:World)=>kY 1 (by decide) (by decide) W)
 go_enter Tryz.func125,Tryz.ntmps125
 go_wp2_with fail
 have hS0:=hid (((St.start w).alloc' (w.heap.size) (by simp) 40 [.bool false,.slice none 0 0,.bool false,.slice none 0 0]).alloc' (w.heap.size+1) (by simp) 38 [.bool false,.slice none 0 0])
 obtain ⟨W0,hW0⟩:=aP hS0
 rw [hW0] at hS0 ⊢
 clear hW0
 refine (HN.out _).mono ?_
 rintro e w1 hret
 obtain ⟨v1,rfl,hz1,hB⟩:=hret.z
 clear hret
 obtain ⟨t1,p1,l1,k1,rfl⟩:=hz1.open
 have hS1:=hid (hS0.out.call hB)
 clear hB hS0
 have hS2:=hid (hS1.out.fact (.z (.agg #[.bool t1,.slice p1 l1 k1]) 1) hz1)
 clear hS1 hz1
 obtain ⟨⟨cR0,cR1⟩,fR0,fR1⟩:=hS2.out.f2 0 (w.heap.size+1) 38 (.bool false) (.slice none 0 0) rfl
 have hS3:=hid (((hS2.out).store (b:=⟨w.heap.size+1,38,[.bool false,.slice none 0 0]⟩) 0 0 (.bool t1) rfl rfl).store (b:=⟨w.heap.size+1,38,[.bool t1,.slice none 0 0]⟩) 0 1 (.slice p1 l1 k1) rfl rfl)
 go_wp2_with fail
 clear cR0 cR1 fR0 fR1
 obtain ⟨⟨zR0,zR1⟩,-⟩:=hS3.out.f2 0 (w.heap.size+1) 38 (.bool t1) (.slice p1 l1 k1) rfl
 exact bodyPost_ret (v:=.agg #[.bool t1,.slice p1 l1 k1]) (by simp [results,Tryz.results125,go_sem,zR0,zR1]) rfl ⟨_,rfl,hS3.out.get (f:=.z (.agg #[.bool t1,.slice p1 l1 k1]) 1) 0 rfl,hS3.out.bel⟩
theorem Uz (w:World):Calls Tryz.prog 121 #[.agg #[.bool false,.slice none 0 0,.bool false,.slice none 0 0]] w (fJ w [48]):=by
 have HN:=hid (fun (W:World)=>FT false none 0 W)
 have HM:=hid (fun (W:World) (v:Value) (a:IsZ W v 1)=>show Calls Tryz.prog 172 #[v] W (fJ W [49]) by
  have h:=xM _ v W a 1 (by decide) (by decide)
  rwa [show gB 1=[49] by unfold gB;rw [if_neg (by decide),decDigits];rfl] at h)
 have HD:=hid (fun (W:World)=>Nq W)
 go_enter Tryz.func121,Tryz.ntmps121
 go_wp2_with fail
 have hS0:=hid ((St.start w).alloc' (w.heap.size) (by simp) 40 [.bool false,.slice none 0 0,.bool false,.slice none 0 0])
 obtain ⟨W0,hW0⟩:=aP hS0
 rw [hW0] at hS0 ⊢
 clear hW0
 obtain ⟨⟨cR0,cR1,cR2,cR3⟩,fR0,fR1,fR2,fR3⟩:=hS0.out.f4 0 w.heap.size 40 (.bool false) (.slice none 0 0) (.bool false) (.slice none 0 0) rfl
 go_wp2_with fail
 clear cR0 cR1 cR2 cR3 fR0 fR1 fR2 fR3
 refine (HN.out _).mono ?_
 rintro e w1 ⟨rfl,hB⟩
 have hS2:=hid (hS0.out.call hB)
 clear hS0 hB
 obtain ⟨⟨cR0,cR1,cR2,cR3⟩,fR0,fR1,fR2,fR3⟩:=hS2.out.f4 0 w.heap.size 40 (.bool false) (.slice none 0 0) (.bool false) (.slice none 0 0) rfl
 go_wp2_with fail
 clear cR0 cR1 cR2 cR3 fR0 fR1 fR2 fR3
 refine (HD.out _).mono ?_
 rintro e w2 ⟨v2,rfl,hz2,hB⟩
 have hS3:=hid (hS2.out.call hB)
 clear hS2 hB
 obtain ⟨t2,p2,l2,k2,rfl⟩:=hz2.open
 have hZ:=hid hz2
 clear hz2
 go_wp2_with fail
 refine (HM.out _ _ hZ.out).mono ?_
 rintro e w3 ⟨rfl,hB⟩
 have hS4:=hid (hS3.out.call hB)
 clear hS3 hB hZ
 go_wp2
 go_ret
 exact ⟨rfl,hS4.out.bel⟩
end Z4
namespace Rx
open Go.RowKit
section
variable (β:Nat→Rat) (h:Hint)
def vN (f:FuncId) (op:RE→RE) (side:RE→Bool):Con (SQ β) where
 fn:=f
 app:=fun db b args=>match args with
  | [.e (.a x)]=>match jg db x with
   | some (e,k)=>if decide (k≤K2) && side e then some (.e (.a (bg b)),[.r b (op e) k]) else none
   | none=>none
  | _=>none
def rU (f:FuncId) (op:RE→RE→RE) (sz:Nat→Nat→Nat) (side:RE→RE→Bool):Con (SQ β) where
 fn:=f
 app:=fun db b args=>match args with
  | [.e (.a x),.e (.a y)]=>match jg db x,jg db y with
   | some (e,k),some (e',k')=>if decide (k≤K2) && decide (k'≤K2) && side e e' then some (.e (.a (bg b)),[.r b (op e e') (sz k k')]) else none
   | _,_=>none
  | _=>none
def wZ:Con (SQ β) where
 fn:=39
 app:=fun db _ args=>match args with
  | [.e (.a x),.e (.a y)]=>match jg db x,jg db y with
   | some (e,k),some (e',k')=>if decide (k≤K2) && decide (k'≤K2) then (match cmB h e e' with
     | some n=>some (.e (.s (.it .i64 n)),[])
     | none=>none) else none
   | _,_=>none
  | _=>none
def AP:Con (SQ β) where
 fn:=24
 app:=fun db _ args=>match args with
  | [.e (.a x)]=>match jg db x with
   | some (e,k)=>if k≤K2 then (match sgB h e with
     | some n=>some (.e (.s (.it .i64 n)),[])
     | none=>none) else none
   | none=>none
  | _=>none
def Bh:Con (SQ β) where
 fn:=27
 app:=fun _ b args=>match args with
  | [.e (.s (.it .i64 1))]=>some (.e (.a (bg b)),[.r b (.c 1) 1])
  | [.e (.s (.it .i64 2))]=>some (.e (.a (bg b)),[.r b (.c 2) 1])
  | _=>none
def Bo:Con (SQ β) where
 fn:=97
 app:=fun db b args=>match args with
  | [.e (.a x)]=>match fO db x with
   | some (e,k)=>if k≤K0 then some (.e (.s (.ot b)),[.x b e]) else none
   | none=>none
  | _=>none
def zO:Con (SQ β) where
 fn:=121
 app:=fun db b args=>match args with
  | [.e (.a x)]=>match jg db x with
   | some (e,k)=>if k≤K0 then some (.e (.s (.ot b)),[.x b e]) else none
   | none=>match vU x with
    | some _=>some (.e (.s (.ot b)),[.x b (.c 0)])
    | none=>none
  | _=>none
def yS:List (Con (SQ β)):=[rU β 29 .add (fun a b=>a+b+1) (fun _ _=>true),rU β 33 .mul (fun a b=>a+b) (fun _ _=>true),rU β 25 .div (fun a b=>a+b+1) (fun _ e=>nzB h e),
 vN β 35 .neg (fun _=>true),vN β 37 .abs (fun _=>true),wZ β h,AP β h,Bh β,Bo β,zO β]
def c0:List (Con (SQ β)):=yS β h ++ cq β h
end
section
variable {β:Nat→Rat} {h:Hint} {f:FuncId} {vals:Array Value} {W:World} {ρ:Env} {b:Nat}
theorem tH {e:RE} {k:Nat} (hc:Calls Tryz.prog f vals W (Z4.fP W (e.ev β))) (hk:Fits k (e.ev β)):Calls Tryz.prog f vals W (Ans β ρ b W (.e (.a (bg b))) [.r b e k]):=by
 refine hc.mono fun _ W' ⟨v,he,hv,hb⟩=>?_
 obtain ⟨c,d,rfl⟩:=kR hv
 have h1:(bg b).map (Cell.den (aK ρ b [c,d]))=[.bool c.b,.slice c.p c.l c.c,.bool false,.slice d.p d.l d.c]:=by simp [bg,Cell.den,aK]
 refine ⟨aK ρ b [c,d],iZ (by simp [M]),?_,hb,fun g hg=>?_⟩
 ·rw [he];simp only [SV.den,El.den,h1]
 ·rw [List.mem_singleton] at hg
  subst hg
  exact ⟨by rw [h1];exact hv,hk⟩
theorem xU {e:RE} {l:List UInt8} (hc:Calls Tryz.prog f vals W (fJ W l)) (hl:l=gJ (e.ev β)):Calls Tryz.prog f vals W (Ans β ρ b W (.e (.s (.ot b))) [.x b e]):=by
 refine hc.mono fun _ W' ⟨he,hb⟩=>?_
 refine ⟨aK ρ b [⟨false,0,none,0,0,⟨l.toArray⟩,0⟩],iZ (by simp [M]),?_,hb,fun g hg=>?_⟩
 ·rw [he];simp [SV.den,El.den,Cell.den,aK]
 ·rw [List.mem_singleton] at hg
  subst hg
  show (aK ρ b _ b).t=_
  rw [← hl]
  simp [aK]
theorem Hw {op:RE→RE} {side:RE→Bool} (hc:∀ e v W,side e=true→Z4.IsR W v (e.ev β)→Fits K2 (e.ev β)→EV W→Calls Tryz.prog f #[v] W (Z4.fP W ((op e).ev β))) (hs:∀ e k,Fits k (e.ev β)→Fits k ((op e).ev β)):(vN β f op side).Ok Tryz.prog (SQ β) EV:=by
 intro db b args res new ha ρ W hf hE
 simp only [vN] at ha
 split at ha
 ·split at ha
  ·rename_i e k hx
   split at ha
   ·rename_i hk
    simp only [Bool.and_eq_true,decide_eq_true_eq] at hk
    cases ha
    obtain ⟨h1,h2⟩:=jG hx hf
    exact tH (hc e _ W hk.2 h1 (h2.mono hk.1) hE) (hs e k h2)
   ·cases ha
  ·cases ha
 ·cases ha
theorem y8 {op:RE→RE→RE} {sz:Nat→Nat→Nat} {side:RE→RE→Bool} (hc:∀ e e' v v' W,side e e' = true→Z4.IsR W v (e.ev β)→Z4.IsR W v' (e'.ev β)→Fits K2 (e.ev β)→Fits K2 (e'.ev β)→EV W→Calls Tryz.prog f #[v,v'] W (Z4.fP W ((op e e').ev β)))
  (hs:∀ e e' k k',Fits k (e.ev β)→Fits k' (e'.ev β)→Fits (sz k k') ((op e e').ev β)):(rU β f op sz side).Ok Tryz.prog (SQ β) EV:=by
 intro db b args res new ha ρ W hf hE
 simp only [rU] at ha
 split at ha
 ·split at ha
  ·rename_i e k e' k' hx hy
   split at ha
   ·rename_i hk
    simp only [Bool.and_eq_true,decide_eq_true_eq] at hk
    cases ha
    obtain ⟨h1,h2⟩:=jG hx hf
    obtain ⟨h3,h4⟩:=jG hy hf
    exact tH (hc e e' _ _ W hk.2 h1 h3 (h2.mono hk.1.1) (h4.mono hk.1.2) hE) (hs e e' k k' h2 h4)
   ·cases ha
  ·cases ha
 ·cases ha
theorem Kv (ok:h.Ok β):(wZ β h).Ok Tryz.prog (SQ β) EV:=by
 intro db b args res new ha ρ W hf hE
 simp only [wZ] at ha
 split at ha
 ·split at ha
  ·rename_i e k e' k' hx hy
   split at ha
   ·rename_i hk
    simp only [Bool.and_eq_true,decide_eq_true_eq] at hk
    split at ha
    ·rename_i n hn
     cases ha
     obtain ⟨h1,h2⟩:=jG hx hf
     obtain ⟨h3,h4⟩:=jG hy hf
     have hc:=Jv h1 h3 (h2.mono hk.1) (h4.mono hk.2) hE
     rw [qJ ok hn] at hc
     exact qA hc rfl
    ·cases ha
   ·cases ha
  ·cases ha
 ·cases ha
theorem Si (ok:h.Ok β):(AP β h).Ok Tryz.prog (SQ β) EV:=by
 intro db b args res new ha ρ W hf hE
 simp only [AP] at ha
 split at ha
 ·split at ha
  ·rename_i e k hx
   split at ha
   ·rename_i hk
    split at ha
    ·rename_i n hn
     cases ha
     obtain ⟨h1,h2⟩:=jG hx hf
     have hc:=NJ h1 (h2.mono hk) hE
     rw [Ad ok hn] at hc
     exact qA hc rfl
    ·cases ha
   ·cases ha
  ·cases ha
 ·cases ha
theorem Py:(Bh β).Ok Tryz.prog (SQ β) EV:=by
 intro db b args res new ha ρ W hf hE
 simp only [Bh] at ha
 split at ha
 ·cases ha
  exact tH (e:=.c 1) (KZ hE) (fits_int (n:=1) (by decide) (by decide))
 ·cases ha
  exact tH (e:=.c 2) (MH hE) (fits_int (n:=2) (by decide) (by decide))
 ·cases ha
theorem Mc:(Bo β).Ok Tryz.prog (SQ β) EV:=by
 intro db b args res new ha ρ W hf hE
 simp only [Bo] at ha
 split at ha
 ·split at ha
  ·rename_i e k hx
   split at ha
   ·rename_i hk
    cases ha
    obtain ⟨⟨h1,h2⟩,-⟩:=gG hx hf
    exact xU (F7 _ _ k W h1 hk h2 hE.ten) rfl
   ·cases ha
  ·cases ha
 ·cases ha
theorem text0:gJ 0=[48]:=by
 unfold gJ
 rw [if_neg (by decide),if_pos (by decide),show (0:Rat).num.natAbs=0 from rfl,Lib.decDigits];rfl
theorem Oi:(zO β).Ok Tryz.prog (SQ β) EV:=by
 intro db b args res new ha ρ W hf hE
 simp only [zO] at ha
 split at ha
 ·split at ha
  ·rename_i e k hx
   split at ha
   ·rename_i hk
    cases ha
    obtain ⟨h1,h2⟩:=jG hx hf
    exact xU (Z4.UZ _ _ W h1 k hk h2) rfl
   ·cases ha
  ·split at ha
   ·rename_i hz
    cases ha
    unfold vU at hz
    split at hz
    ·exact xU (e:=.c 0) (Z4.Uz W) text0.symm
    ·cases hz
   ·cases ha
 ·cases ha
theorem U2 (ok:h.Ok β):∀ c∈yS β h,c.Ok Tryz.prog (SQ β) EV:=by
 unfold yS
 simp only [List.forall_mem_cons,List.not_mem_nil,false_imp_iff,implies_true,and_true]
 exact ⟨y8 (fun _ _ _ _ _ _ h1 h2 f1 f2 hE=>Rt h1 h2 f1 f2 hE) (fun _ _ _ _ h1 h2=>h1.plus h2),
  y8 (fun _ _ _ _ _ _ h1 h2 f1 f2 hE=>Le h1 h2 f1 f2 hE) (fun _ _ _ _ h1 h2=>h1.mul h2),
  y8 (fun _ _ _ _ _ hn h1 h2 f1 f2 hE=>Q7 h1 h2 f1 f2 (qB ok hn) hE) (fun _ _ _ _ h1 h2=>h1.over h2),
  Hw (fun _ _ _ _ h1 f1 hE=>Ro h1 f1 hE) (fun _ _ h1=>h1.neg),Hw (fun _ _ _ _ h1 f1 hE=>Pj h1 f1 hE) (fun _ _ h1=>Hz h1),
  Kv ok,Si ok,Py,Mc,Oi⟩
theorem tK (ok:h.Ok β):∀ c∈c0 β h,c.Ok Tryz.prog (SQ β) EV:=fun c hc=>by
 rcases List.mem_append.1 hc with hc | hc
 ·exact U2 ok c hc
 ·exact wJ ok c hc
end
end Rx
namespace Rx
open Go.RowKit
abbrev K3:Nat:=1024
abbrev y0:RE:=.v 0
abbrev y1:RE:=.v 1
abbrev y2:RE:=.v 2
abbrev y3:RE:=.v 3
abbrev Q2:List At:=[.q,.q]
abbrev R2:List At:=[.r,.r]
def gW (x:RE):RE:=.add (.c 1) x
def sqs (x y:RE):RE:=.add (.mul x x) (.mul y y)
def tR (e:RE):RE:=.div (.mul (.c 2) e) (.add (.c 1) (.mul e e))
theorem lJ {β:Nat→Rat} {x:RE} {s:Int} (h:x.ev β≠0) (hs:sgQ (x.ev β)=s):Hint.Ok β { nz:=[x],sg:=[(x,s)] }:=
 ⟨fun p h=>(by cases h),fun p h=>(by cases h),fun p hp=>(by simp at hp;subst hp;exact h),fun p hp=>(by simp at hp;subst hp;exact hs),fun p h=>(by cases h)⟩
theorem mD {β:Nat→Rat} {x y:RE} {s:Int} (hs:aY (x.ev β) (y.ev β)=s):Hint.Ok β { cm:=[(x,y,s)] }:=
 ⟨fun p h=>(by cases h),fun p h=>(by cases h),fun p h=>(by cases h),fun p h=>(by cases h),fun p hp=>(by simp at hp;subst hp;exact hs)⟩
theorem Ep {a b:Rat} (h:a≠b):aY a b = -1∨aY a b=1:=by
 unfold aY
 split
 ·exact .inl rfl
 ·exact .inr rfl
def DX (β:Nat→Rat) (h:Hint):Con (SQ β):=bG β h 31 [[.r],[.r]] 16384 {} (.at [.r] [.sub y0 y1]) 32769
theorem PG {β:Nat→Rat} {h:Hint} (ok:h.Ok β):(DX β h).Ok Tryz.prog (SQ β) EV:=bV ok (by decide) fun γ g=>⟨{},aO γ,1,c0 γ {},tK (aO γ),by kernel_rfl⟩
def Ez (β:Nat→Rat) (h:Hint):Con (SQ β):=bG β h 19 [[.q],[.r]] K1 { eq:=[(y0,y1)] } (.bl true) K1
theorem Ku {β:Nat→Rat} {h:Hint} (ok:h.Ok β):(Ez β h).Ok Tryz.prog (SQ β) EV:=bV ok (by decide) fun γ g=>⟨{ eq:=[(y0,y1)] },g,1,c0 γ { eq:=[(y0,y1)] },tK g,by kernel_rfl⟩
def Gv (β:Nat→Rat) (h:Hint):Con (SQ β):=bG β h 19 [[.q],[.o]] K1 { eq:=[(y0,.c 0)] } (.bl true) K1
theorem MX {β:Nat→Rat} {h:Hint} (ok:h.Ok β):(Gv β h).Ok Tryz.prog (SQ β) EV:=bV ok (by decide) fun γ g=>⟨{ eq:=[(y0,.c 0)] },g,1,c0 γ { eq:=[(y0,.c 0)] },tK g,by kernel_rfl⟩
def c1 (β:Nat→Rat) (h:Hint):List (Con (SQ β)):=DX β h :: Ez β h :: Gv β h :: c0 β h
theorem bH {β:Nat→Rat} {h:Hint} (ok:h.Ok β):∀ c∈c1 β h,c.Ok Tryz.prog (SQ β) EV:=by
 unfold c1
 simp only [List.forall_mem_cons]
 exact ⟨PG ok,Ku ok,MX ok,tK ok⟩
def IE (β:Nat→Rat) (h:Hint):Con (SQ β):=bG β h 67 [Q2,R2] K1 { eq:=[(y0,y2),(y1,y3)] } (.bl true) K1
theorem O8 {β:Nat→Rat} {h:Hint} (ok:h.Ok β):(IE β h).Ok Tryz.prog (SQ β) EV:=bV ok (by decide) fun γ g=>⟨{ eq:=[(y0,y2),(y1,y3)] },g,1,c1 γ { eq:=[(y0,y2),(y1,y3)] },bH g,by kernel_rfl⟩
def Ir (β:Nat→Rat) (h:Hint):Con (SQ β):=bG β h 82 [Q2,R2] K1 { eq:=[(y0,y2),(y1,y3)] } (.bl true) K1
theorem Np {β:Nat→Rat} {h:Hint} (ok:h.Ok β):(Ir β h).Ok Tryz.prog (SQ β) EV:=bV ok (by decide) fun γ g=>⟨{ eq:=[(y0,y2),(y1,y3)] },g,1,c1 γ { eq:=[(y0,y2),(y1,y3)] },bH g,by kernel_rfl⟩
def Gj (β:Nat→Rat) (h:Hint):Con (SQ β):=bG β h 68 [Q2,Q2] K3 {} (.at Q2 [.add y0 y2,.add y1 y3]) K1
theorem Rz {β:Nat→Rat} {h:Hint} (ok:h.Ok β):(Gj β h).Ok Tryz.prog (SQ β) EV:=bV ok (by decide) fun γ g=>⟨{},aO γ,1,c1 γ {},bH (aO γ),by kernel_rfl⟩
def DR (β:Nat→Rat) (h:Hint):Con (SQ β):=bG β h 70 [Q2,Q2] K3 {} (.at Q2 [.sub y0 y2,.sub y1 y3]) K1
theorem TK {β:Nat→Rat} {h:Hint} (ok:h.Ok β):(DR β h).Ok Tryz.prog (SQ β) EV:=bV ok (by decide) fun γ g=>⟨{},aO γ,1,c1 γ {},bH (aO γ),by kernel_rfl⟩
def Ic (β:Nat→Rat) (h:Hint):Con (SQ β):=bG β h 72 [Q2,[.q]] K3 {} (.at Q2 [.mul y0 y2,.mul y1 y2]) K1
theorem Lp {β:Nat→Rat} {h:Hint} (ok:h.Ok β):(Ic β h).Ok Tryz.prog (SQ β) EV:=bV ok (by decide) fun γ g=>⟨{},aO γ,1,c1 γ {},bH (aO γ),by kernel_rfl⟩
def GU (β:Nat→Rat) (h:Hint):Con (SQ β):=bG β h 69 [R2,R2] K3 {} (.at R2 [.add y0 y2,.add y1 y3]) K1
theorem UQ {β:Nat→Rat} {h:Hint} (ok:h.Ok β):(GU β h).Ok Tryz.prog (SQ β) EV:=bV ok (by decide) fun γ g=>⟨{},aO γ,1,c1 γ {},bH (aO γ),by kernel_rfl⟩
def Eo (β:Nat→Rat) (h:Hint):Con (SQ β):=bG β h 71 [R2,R2] K3 {} (.at R2 [.sub y0 y2,.sub y1 y3]) K1
theorem Vg {β:Nat→Rat} {h:Hint} (ok:h.Ok β):(Eo β h).Ok Tryz.prog (SQ β) EV:=bV ok (by decide) fun γ g=>⟨{},aO γ,1,c1 γ {},bH (aO γ),by kernel_rfl⟩
def GL (β:Nat→Rat) (h:Hint):Con (SQ β):=bG β h 73 [R2,[.r]] K3 {} (.at R2 [.mul y0 y2,.mul y1 y2]) K1
theorem OZ {β:Nat→Rat} {h:Hint} (ok:h.Ok β):(GL β h).Ok Tryz.prog (SQ β) EV:=bV ok (by decide) fun γ g=>⟨{},aO γ,1,c1 γ {},bH (aO γ),by kernel_rfl⟩
def EX (β:Nat→Rat) (h:Hint):Con (SQ β):=bG β h 75 [R2,R2] K3 {} (.at [.r] [.add (.mul y0 y2) (.mul y1 y3)]) K1
theorem LJ {β:Nat→Rat} {h:Hint} (ok:h.Ok β):(EX β h).Ok Tryz.prog (SQ β) EV:=bV ok (by decide) fun γ g=>⟨{},aO γ,1,c1 γ {},bH (aO γ),by kernel_rfl⟩
def F5 (β:Nat→Rat) (h:Hint):Con (SQ β):=bG β h 77 [R2,R2] K3 {} (.at [.r] [.sub (.mul y0 y3) (.mul y1 y2)]) K1
theorem LZ {β:Nat→Rat} {h:Hint} (ok:h.Ok β):(F5 β h).Ok Tryz.prog (SQ β) EV:=bV ok (by decide) fun γ g=>⟨{},aO γ,1,c1 γ {},bH (aO γ),by kernel_rfl⟩
def BU (β:Nat→Rat) (h:Hint):Con (SQ β):=bG β h 79 [R2,R2] K3 {} (.at R2 [.sub (.mul y2 y0) (.mul y3 y1),.add (.mul y3 y0) (.mul y2 y1)]) K1
theorem TP {β:Nat→Rat} {h:Hint} (ok:h.Ok β):(BU β h).Ok Tryz.prog (SQ β) EV:=bV ok (by decide) fun γ g=>⟨{},aO γ,1,c1 γ {},bH (aO γ),by kernel_rfl⟩
def Fb (β:Nat→Rat) (h:Hint):Con (SQ β):=bG β h 86 [R2,R2] K3 {} (.at R2 [.sub (.mul y0 y2) (.mul y1 y3),.add (.mul y1 y2) (.mul y0 y3)]) K1
theorem TV {β:Nat→Rat} {h:Hint} (ok:h.Ok β):(Fb β h).Ok Tryz.prog (SQ β) EV:=bV ok (by decide) fun γ g=>⟨{},aO γ,1,c1 γ {},bH (aO γ),by kernel_rfl⟩
def G5 (β:Nat→Rat) (h:Hint):Con (SQ β):=bG β h 88 [R2] K3 {} (.at R2 [y0,.neg y1]) K1
theorem TW {β:Nat→Rat} {h:Hint} (ok:h.Ok β):(G5 β h).Ok Tryz.prog (SQ β) EV:=bV ok (by decide) fun γ g=>⟨{},aO γ,1,c1 γ {},bH (aO γ),by kernel_rfl⟩
def IW (β:Nat→Rat) (h:Hint):Con (SQ β):=bG β h 84 [[.r]] K3 {} (.at R2 [tC y0,tR y0]) K1
theorem Ou {β:Nat→Rat} {h:Hint} (ok:h.Ok β):(IW β h).Ok Tryz.prog (SQ β) EV:=bV ok (by decide) fun γ g=>have ok1:Hint.Ok γ { nz:=[.add (.c 1) (.mul y0 y0)] }:=⟨fun p h=>(by cases h),fun p h=>(by cases h),fun p hp=>(by simp at hp;subst hp;exact Gq (γ 0)),fun p h=>(by cases h),fun p h=>(by cases h)⟩
 ⟨_,ok1,1,c1 γ _,bH ok1,by kernel_rfl⟩
def ET (β:Nat→Rat) (h:Hint):Con (SQ β):=bG β h 74 [Q2,Q2] K3 {} (.at [.q] [.add (.mul y0 y2) (.mul y1 y3)]) K1
theorem TF {β:Nat→Rat} {h:Hint} (ok:h.Ok β):(ET β h).Ok Tryz.prog (SQ β) EV:=bV ok (by decide) fun γ g=>⟨{},aO γ,1,c1 γ {},bH (aO γ),by kernel_rfl⟩
def EN (β:Nat→Rat) (h:Hint):Con (SQ β):=bG β h 76 [Q2,Q2] K3 {} (.at [.q] [.sub (.mul y0 y3) (.mul y1 y2)]) K1
theorem QX {β:Nat→Rat} {h:Hint} (ok:h.Ok β):(EN β h).Ok Tryz.prog (SQ β) EV:=bV ok (by decide) fun γ g=>⟨{},aO γ,1,c1 γ {},bH (aO γ),by kernel_rfl⟩
def Ec (β:Nat→Rat) (h:Hint):Con (SQ β):=bG β h 78 [Q2,Q2] K3 {} (.at Q2 [.sub (.mul y2 y0) (.mul y3 y1),.add (.mul y3 y0) (.mul y2 y1)]) K1
theorem KI {β:Nat→Rat} {h:Hint} (ok:h.Ok β):(Ec β h).Ok Tryz.prog (SQ β) EV:=bV ok (by decide) fun γ g=>⟨{},aO γ,1,c1 γ {},bH (aO γ),by kernel_rfl⟩
def Iw (β:Nat→Rat) (h:Hint):Con (SQ β):=bG β h 85 [Q2,Q2] K3 {} (.at Q2 [.sub (.mul y0 y2) (.mul y1 y3),.add (.mul y1 y2) (.mul y0 y3)]) K1
theorem Ql {β:Nat→Rat} {h:Hint} (ok:h.Ok β):(Iw β h).Ok Tryz.prog (SQ β) EV:=bV ok (by decide) fun γ g=>⟨{},aO γ,1,c1 γ {},bH (aO γ),by kernel_rfl⟩
def EL (β:Nat→Rat) (h:Hint):Con (SQ β):=bG β h 87 [Q2] K3 {} (.at Q2 [y0,.neg y1]) K1
theorem O5 {β:Nat→Rat} {h:Hint} (ok:h.Ok β):(EL β h).Ok Tryz.prog (SQ β) EV:=bV ok (by decide) fun γ g=>⟨{},aO γ,1,c1 γ {},bH (aO γ),by kernel_rfl⟩
def EG (β:Nat→Rat) (h:Hint):Con (SQ β):=bG β h 80 [[.q,.q]] K3 { nz:=[gW y0] } (.atb [.q] [.div y1 (gW y0)] true) K1
theorem TR {β:Nat→Rat} {h:Hint} (ok:h.Ok β):(EG β h).Ok Tryz.prog (SQ β) EV:=bV ok (by decide) fun γ g=>by
 have hn:(gW y0).ev γ≠0:=g.2.2.1 _ (by simp)
 rcases Et hn with hs | hs
 ·exact ⟨_,lJ hn hs,1,c1 γ _,bH (lJ hn hs),by kernel_rfl⟩
 ·exact ⟨_,lJ hn hs,1,c1 γ _,bH (lJ hn hs),by kernel_rfl⟩
def Ce (β:Nat→Rat) (h:Hint):Con (SQ β):=bG β h 89 [Q2] K3 { eq:=[(sqs y0 y1,.c 1)] } (.bl true) K1
theorem RD {β:Nat→Rat} {h:Hint} (ok:h.Ok β):(Ce β h).Ok Tryz.prog (SQ β) EV:=bV ok (by decide) fun γ g=>⟨{ eq:=[(sqs y0 y1,.c 1)] },g,1,c1 γ { eq:=[(sqs y0 y1,.c 1)] },bH g,by kernel_rfl⟩
def CJ (β:Nat→Rat) (h:Hint):Con (SQ β):=bG β h 81 [[.r,.r]] K3 { nz:=[gW y0] } (.atb [.r] [.div y1 (gW y0)] true) K1
theorem Lc {β:Nat→Rat} {h:Hint} (ok:h.Ok β):(CJ β h).Ok Tryz.prog (SQ β) EV:=bV ok (by decide) fun γ g=>by
 have hn:(gW y0).ev γ≠0:=g.2.2.1 _ (by simp)
 rcases Et hn with hs | hs
 ·exact ⟨_,lJ hn hs,1,c1 γ _,bH (lJ hn hs),by kernel_rfl⟩
 ·exact ⟨_,lJ hn hs,1,c1 γ _,bH (lJ hn hs),by kernel_rfl⟩
def Ji (β:Nat→Rat) (h:Hint):Con (SQ β):=bG β h 80 [Q2] K3 { sg:=[(gW y0,0)] } (.atb [.q] [.c 0] false) K1
theorem Oy {β:Nat→Rat} {h:Hint} (ok:h.Ok β):(Ji β h).Ok Tryz.prog (SQ β) EV:=bV ok (by decide) fun γ g=>⟨{ sg:=[(gW y0,0)] },g,1,c1 γ { sg:=[(gW y0,0)] },bH g,by kernel_rfl⟩
def DY (β:Nat→Rat) (h:Hint):Con (SQ β):=bG β h 81 [R2] K3 { sg:=[(gW y0,0)] } (.atb [.o] [.c 0] false) K1
theorem QG {β:Nat→Rat} {h:Hint} (ok:h.Ok β):(DY β h).Ok Tryz.prog (SQ β) EV:=bV ok (by decide) fun γ g=>⟨{ sg:=[(gW y0,0)] },g,1,c1 γ { sg:=[(gW y0,0)] },bH g,by kernel_rfl⟩
def Iy (β:Nat→Rat) (h:Hint):Con (SQ β):=bG β h 90 [R2] K3 { eq:=[(sqs y0 y1,.c 1)] } (.bl true) K1
theorem Nz {β:Nat→Rat} {h:Hint} (ok:h.Ok β):(Iy β h).Ok Tryz.prog (SQ β) EV:=bV ok (by decide) fun γ g=>⟨{ eq:=[(sqs y0 y1,.c 1)] },g,1,c1 γ { eq:=[(sqs y0 y1,.c 1)] },bH g,by kernel_rfl⟩
def Ia (β:Nat→Rat) (h:Hint):Con (SQ β):=bG β h 89 [Q2] K3 { ne:=[(sqs y0 y1,.c 1)] } (.bl false) K1
theorem U1 {β:Nat→Rat} {h:Hint} (ok:h.Ok β):(Ia β h).Ok Tryz.prog (SQ β) EV:=bV ok (by decide) fun γ g=>by
 have hn:(sqs y0 y1).ev γ≠(RE.c 1).ev γ:=g.2.1 _ (List.mem_singleton.2 rfl)
 rcases Ep hn with hs | hs
 ·exact ⟨_,mD hs,1,c1 γ _,bH (mD hs),by kernel_rfl⟩
 ·exact ⟨_,mD hs,1,c1 γ _,bH (mD hs),by kernel_rfl⟩
def DN (β:Nat→Rat) (h:Hint):Con (SQ β):=bG β h 90 [R2] K3 { ne:=[(sqs y0 y1,.c 1)] } (.bl false) K1
theorem U3 {β:Nat→Rat} {h:Hint} (ok:h.Ok β):(DN β h).Ok Tryz.prog (SQ β) EV:=bV ok (by decide) fun γ g=>by
 have hn:(sqs y0 y1).ev γ≠(RE.c 1).ev γ:=g.2.1 _ (List.mem_singleton.2 rfl)
 rcases Ep hn with hs | hs
 ·exact ⟨_,mD hs,1,c1 γ _,bH (mD hs),by kernel_rfl⟩
 ·exact ⟨_,mD hs,1,c1 γ _,bH (mD hs),by kernel_rfl⟩
def c2 (β:Nat→Rat) (h:Hint):List (Con (SQ β)):=ET β h :: EN β h :: Ec β h :: Iw β h :: EL β h :: EG β h :: Ce β h :: IE β h :: Ir β h :: Gj β h :: DR β h :: Ic β h :: GU β h :: Eo β h :: GL β h :: EX β h :: F5 β h :: BU β h :: Fb β h :: G5 β h :: IW β h :: CJ β h :: Ji β h :: DY β h :: Iy β h :: Ia β h :: DN β h :: c1 β h
theorem MN {β:Nat→Rat} {h:Hint} (ok:h.Ok β):∀ c∈c2 β h,c.Ok Tryz.prog (SQ β) EV:=by
 unfold c2
 simp only [List.forall_mem_cons]
 exact ⟨TF ok,QX ok,KI ok,Ql ok,O5 ok,TR ok,RD ok,O8 ok,Np ok,Rz ok,TK ok,Lp ok,UQ ok,Vg ok,OZ ok,LJ ok,LZ ok,TP ok,TV ok,TW ok,Ou ok,Lc ok,Oy ok,QG ok,Nz ok,U1 ok,U3 ok,bH ok⟩
def c3 (β:Nat→Rat) (h:Hint):List (Con (SQ β)):=conBothP β :: wF β :: (c2 β h ++ cl1 β)
theorem SG {β:Nat→Rat} {h:Hint} (ok:h.Ok β):∀ c∈c3 β h,c.Ok Tryz.prog (SQ β) EV:=fun c hc=>by
 rcases List.mem_cons.1 hc with rfl | hc
 ·exact PV
 rcases List.mem_cons.1 hc with rfl | hc
 ·exact Eh
 ·rcases List.mem_append.1 hc with hc | hc
  ·exact MN ok c hc
  ·exact IV c hc
end Rx
end Go.Proofs.YtnmlkobogofadaaGreatDoor
