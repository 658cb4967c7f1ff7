/- What the proof rests on, part 30. -/
import Derived.Test.YtancpaiaoamjlaaGreatDoorZ26
import Derived.Test.YtancpaiaoamjlaaGreatDoorZ22
import Derived.Test.YtancpaiaoamjlaaGreatDoorZ29
import Derived.Test.YtancpaiaoamjlaaGreatDoorZ27
namespace Go.Proofs.YtancpaiaoamjlaaGreatDoor
set_option maxRecDepth 100000
set_option maxHeartbeats 80000000
namespace Z4
open Go.RowKit Go.Sort Go.Lib
theorem LK:∀ (k r:Nat),dL (k+1) r=UInt8.ofNat (48+r / 10 ^ k % 10) :: dL k r
 | 0,r=>by simp [dL]
 | k+1,r=>by
  rw [dL,LK k (r / 10),List.cons_append]
  conv=>rhs;rw [dL]
  rw [Nat.div_div_eq_div_mul,Nat.pow_succ,Nat.mul_comm 10]
theorem FI:∀ (k r:Nat),(dL k r).length=k
 | 0,_=>rfl
 | k+1,r=>by rw [dL,List.length_append,FI k];rfl
theorem G7 (i:Nat):B4 ^ i=10 ^ (4*i):=by rw [Nat.pow_mul];rfl
theorem Sz {xs:List Nat} {i k x:Nat} (dx:Dig xs) (hi:i<xs.length) (hx:xs[i]?.getD 0=x) (hk:k<4):val xs / 10 ^ (4*i+k) % 10=x / 10 ^ k % 10:=by
 have h1:=cO xs i (by omega)
 have h2:val (xs.take i)<B4 ^ i:=by have:=aV (dx.take i);rwa [List.length_take,Nat.min_eq_left (by omega)] at this
 rw [fD xs i hi,hx] at h1
 have h3:val xs / 10 ^ (4*i)=x+10000*val (xs.drop (i+1)):=by
  rw [← G7,h1,Nat.add_mul_div_left _ _ (Nat.pow_pos jV),Nat.div_eq_of_lt h2,Nat.zero_add,jf]
 rw [Nat.pow_add,← Nat.div_div_eq_div_mul,h3]
 generalize val (xs.drop (i+1))=V
 rcases (show k=0∨k=1∨k=2∨k=3 by omega) with rfl | rfl | rfl | rfl <;> simp <;> omega
theorem Jf {n:Nat} (h:0<n):∃ x r,decDigits n=x :: r∧x.toNat≠48:=by
 obtain ⟨x,r,h1,h2⟩:∃ x r,decDigits n=x :: r∧(n≠0→x.toNat≠48):=by
  induction n using Nat.strongRecOn with
  | _ n ih =>
   by_cases h10:n<10
   ·refine ⟨UInt8.ofNat (48+n),[],by rw [decDigits,dif_pos h10],fun hn=>?_⟩
    rw [UInt8.toNat_ofNat'];omega
   ·obtain ⟨x,r,h1,h2⟩:=ih (n / 10) (by omega) (by omega)
    refine ⟨x,r ++ [UInt8.ofNat (48+n % 10)],by rw [decDigits,dif_neg h10,h1];rfl,fun _=>h2 (by omega)⟩
 exact ⟨x,r,h1,h2 (by omega)⟩
theorem ZJ {xs:List Nat} (dx:Dig xs) (h:0<val xs) (hs:xs.length≤549755813888):∃ j,j≤4398046511104∧dL (4*xs.length) (val xs)=List.replicate j 48 ++ decDigits (val xs):=by
 have h1:=aV dx
 rw [G7] at h1
 have h0:xs.length≠0:=fun e=>by
  rw [List.length_eq_zero_iff] at e;subst e;simp [val] at h
 exact ⟨4*xs.length - 1+1 - nDigits (val xs),by omega,by
  rw [show 4*xs.length=4*xs.length - 1+1 by omega]
  exact FH (4*xs.length - 1) (val xs) (by rw [show 4*xs.length - 1+1=4*xs.length by omega];exact h1)⟩
def iL (z:Int):List UInt8:=(if z<0 then [45] else []) ++ decDigits z.natAbs
theorem SC:∀ n:Nat,n<10→(⟨#[48,49,50,51,52,53,54,55,56,57]⟩:ByteArray).extract n (n+1)=⟨#[UInt8.ofNat (48+n)]⟩:=by
 intro n hn
 rcases (show n=0∨n=1∨n=2∨n=3∨n=4∨n=5∨n=6∨n=7∨n=8∨n=9 by omega) with rfl | rfl | rfl | rfl | rfl | rfl | rfl | rfl | rfl | rfl <;> rfl
theorem Ru (c:UInt8) (l:List UInt8):(⟨#[c]⟩:ByteArray) ++ ⟨l.toArray⟩=⟨(c :: l).toArray⟩:=by
 apply ByteArray.ext
 simp [ByteArray.data_append]
theorem OL (t:Bool) (p:Option Addr) (k:Nat) (w:World):Calls Tryz.prog 70 #[.agg #[.bool t,.slice p 0 k]] w (gW w [48]):=by
 go_enter Tryz.func70,Tryz.ntmps70
 go_wp2
 go_ret
 exact ⟨rfl,(Below.refl _ _).alloc (Nat.le_refl _) _⟩
theorem aar (t:Bool) (b o k:Nat) (xs:List Nat) (w:World) (hb:b<w.heap.size) (hx:Ints w b o xs) (dx:Dig xs) (hv:0<val xs) (hsz:xs.length≤549755813888) :
  Calls Tryz.prog 70 #[.agg #[.bool t,.slice (some ⟨b,o,none⟩) xs.length k]] w (gW w ((if t then [45] else []) ++ decDigits (val xs))):=by
 have hl0:xs.length≠0:=fun e=>by rw [List.length_eq_zero_iff] at e;subst e;simp [val] at hv
 have hB:=(Below.refl w.heap.size w).alloc (Nat.le_refl _) (.cells #[.bool t,.slice (some ⟨b,o,none⟩) xs.length k] 35)
 have HX:=hid (hx.below hB hb)
 have HB:=hid hB
 have HS:=hid (ZJ dx hv hsz)
 have HH:=hid (Jf hv)
 obtain ⟨N,hN⟩:∃ N,val xs=N:=⟨_,rfl⟩
 have HD:=hid (fun i k x (hi:i<xs.length) (hx:xs[i]?.getD 0=x) (hk:k<4)=>hN ▸ Sz (k:=k) dx hi hx hk)
 have HLn:=hid (show (decDigits (val xs)).length≤4398046511104 by
  obtain ⟨j,-,h⟩:=HS.out
  have:=congrArg List.length h
  rw [FI,List.length_append,List.length_replicate] at this
  omega)
 rw [hN] at HS HH HLn ⊢
 obtain ⟨T,hT⟩:∃ T,(if t then [45] else []) ++ decDigits N=T:=⟨_,rfl⟩
 rw [hT]
 have HT:=hid hT
 clear hT
 have c1:(w.alloc (.cells #[.bool t,.slice (some ⟨b,o,none⟩) xs.length k] 35)).cell? ⟨w.heap.size,1,none⟩=some (.slice (some ⟨b,o,none⟩) xs.length k):=by go_simp
 have c0:(w.alloc (.cells #[.bool t,.slice (some ⟨b,o,none⟩) xs.length k] 35)).cell? ⟨w.heap.size,0,none⟩=some (.bool t):=by go_simp
 have hl1:((xs.length:Int) == 0)=false:=by rw [beq_eq_false_iff_ne];omega
 clear hB hx hN hv hl0
 go_enter Tryz.func70,Tryz.ntmps70
 go_wp2
 obtain ⟨W0,hW0⟩:∃ W0,w.alloc (.cells #[.bool t,.slice (some ⟨b,o,none⟩) xs.length k] 35)=W0:=⟨_,rfl⟩
 rw [hW0] at HX HB c0 c1 ⊢
 clear hW0 hl1
 go_loop [3,4] (fun sv iv=>∃ i:Nat,iv=.int .i64 i∧i≤xs.length∧sv=.string ⟨(dL (4*i) N).toArray⟩) (fun _ iv=>xs.length - (RowKit.intOf iv).toNat)
 case atStart=>exact ⟨0,rfl,Nat.zero_le _,rfl⟩
 case round =>
  obtain ⟨i,rfl,hi,rfl⟩:=hrel
  by_cases hlt:i<xs.length
  ·obtain ⟨x,hxi⟩:∃ x,xs[i]?.getD 0=x:=⟨_,rfl⟩
   have cx:W0.cell? ⟨b,o+i,none⟩=some (.int .i64 (x:Int)):=by rw [HX.out i hlt,hxi]
   have hx1:x<10000:=hxi ▸ dx.getD i
   have HE:=hid (fun k hk=>HD.out i k x hlt hxi hk)
   clear hxi
   go_wp2
   go_loop [3,5,6] (fun sv dv kv=>∃ k:Nat,kv=.int .i64 k∧k≤4∧dv=.int .i64 ((x / 10 ^ k:Nat):Int)∧sv=.string ⟨(dL (4*i+k) N).toArray⟩) (fun _ _ kv=>4 - (RowKit.intOf kv).toNat)
   case atStart=>exact ⟨0,rfl,by omega,by simp,rfl⟩
   case round =>
    obtain ⟨k,rfl,hk4,rfl,rfl⟩:=hrel
    by_cases hk:k<4
    ·obtain ⟨d,hd⟩:∃ d,x / 10 ^ k=d:=⟨_,rfl⟩
     have hd2:x / 10 ^ (k+1)=d / 10:=by rw [Nat.pow_succ,← Nat.div_div_eq_div_mul,hd]
     have hdl:d≤10000:=by have:=Nat.div_le_self x (10 ^ k);omega
     obtain ⟨e,he⟩:∃ e:Nat,(d:Int) % 10=(e:Int):=⟨d % 10,by omega⟩
     have he1:e<10:=by omega
     have hn:dL (4*i+(k+1)) N=UInt8.ofNat (48+e) :: dL (4*i+k) N:=by
      rw [← Nat.add_assoc,LK,HE.out k hk,hd]
      congr 2
      omega
     have hpl:=FI (4*i+k) N
     obtain ⟨s,hs⟩:∃ s,dL (4*i+k) N=s:=⟨_,rfl⟩
     rw [hs] at hn hpl ⊢
     rw [hd]
     have hstr:=SC e he1
     obtain ⟨c,hc⟩:∃ c,UInt8.ofNat (48+e)=c:=⟨_,rfl⟩
     rw [hc] at hn hstr
     have HN:=hid hn
     have HD2:=hid hd2
     have hcs:=Ru c s
     clear hn hd2 hd hs hc
     go_wp2
     go_round
     case rel=>exact ⟨k+1,by go_num,by omega,by rw [HD2.out];first | rfl | go_num,by rw [HN.out]⟩
     case measure=>simp [RowKit.intOf];omega
    ·obtain rfl:k=4:=by omega
     go_wp2
     go_round
     case rel=>exact ⟨i+1,by go_num,by omega,by rw [show 4*(i+1)=4*i+4 by omega]⟩
     case measure=>simp [RowKit.intOf];omega
  ·obtain rfl:i=xs.length:=by omega
   obtain ⟨j0,hjl,hj0⟩:=HS.out
   rw [hj0]
   clear hj0
   go_wp2
   go_loop [3] (fun sv=>∃ j:Nat,sv=.string ⟨(List.replicate j 48 ++ decDigits N).toArray⟩∧j≤4398046511104) (fun sv=>match sv with | .string s=>s.size | _=>0)
   case atStart=>exact ⟨j0,rfl,hjl⟩
   case round =>
    obtain ⟨j,rfl,hj⟩:=hrel
    cases j with
    | zero =>
     obtain ⟨x,r,hr,hne⟩:=HH.out
     rw [List.replicate_zero,List.nil_append,hr]
     have hln:=HLn.out
     rw [hr,List.length_cons] at hln
     have HR:=hid hr
     have hb:(((((⟨(x :: r).toArray⟩:ByteArray)[0]'(by simp [ByteArray.size])).toNat:Nat):Int) == 48)=false:=by rw [beq_eq_false_iff_ne];show ((x.toNat:Nat):Int)≠48;omega
     clear hr
     cases t with
     | false =>
      go_wp2
      go_ret
      refine ⟨?_,HB.out⟩
      rw [← HT.out,HR.out];rfl
     | true =>
      go_wp2
      go_ret
      refine ⟨?_,HB.out⟩
      rw [← HT.out,HR.out];rfl
    | succ j =>
     obtain ⟨s,hs⟩:∃ s,List.replicate j 48 ++ decDigits N=s:=⟨_,rfl⟩
     rw [List.replicate_succ,List.cons_append,hs]
     have HR:=hid hs
     clear hs
     have hb:(((((⟨(48 :: s).toArray⟩:ByteArray)[0]'(by simp [ByteArray.size])).toNat:Nat):Int) == 48)=true:=by rw [beq_iff_eq];rfl
     go_wp2
     go_round
     case rel=>exact ⟨j,by rw [HR.out];exact congrArg Value.string (extract_drop (48 :: s) 1),by omega⟩
     case measure=>simp [ByteArray.size]
end Z4
namespace Rx
open Go.RowKit
section
variable (β:Nat→Rat) (h:Hint)
def CX:Con (SR β) where
 fn:=40
 app:=fun db b args=>match args with
  | [.e (.a [.ob s,.os s',.bl false,.os t])]=>if s=s' && s+1=t then (match findD db s with
    | some (e,k)=>some (.e (.a [.bl false,.os b]),[.l b (.den e) k])
    | none=>none) else none
  | _=>none
def yt (f:FuncId) (o:RE→RE→RE) (sz:Nat→Nat→Nat):Con (SR β) where
 fn:=f
 app:=fun db b args=>match args with
  | [.e (.a x),.e (.a y)]=>match asY db x,asY db y with
   | some (e,k),some (e',k')=>if decide (k≤K1) && decide (k'≤K1) then some (.e (.a (zC b)),[.z b (o e e') (sz k k')]) else none
   | _,_=>none
  | _=>none
def DU:Con (SR β) where
 fn:=51
 app:=fun db b args=>match args with
  | [.e (.a x)]=>match asY db x with
   | some (e,k)=>some (.e (.a (zC b)),[.z b (.neg e) k])
   | none=>none
  | _=>none
def Dp:Con (SR β) where
 fn:=36
 app:=fun _ b args=>match args with
  | [.e (.s (.it .i64 n))]=>if decide (0≤n) && decide (n≤9223372036854775807) then some (.e (.a [.bl false,.os b]),[.l b (.c n) 1]) else none
  | _=>none
def Dw:Con (SR β) where
 fn:=35
 app:=fun db b args=>match args with
  | [.e (.a x),.e (.a y)]=>match asY db x,asY db y with
   | some (e,k),some (e',k')=>if decide (k≤K1) && decide (k'≤K1) && (je e' || nzB h e') then some (.e (.a (dw b)),[.r b (.div e e') (max k k')]) else none
   | _,_=>none
  | _=>none
def DT:Con (SR β) where
 fn:=38
 app:=fun db _ args=>match args with
  | [.e (.a x),.e (.a y)]=>match asY db x,asY db y with
   | some (e,k),some (e',k')=>if decide (k≤K1) && decide (k'≤K1) then (match cmB h e e' with
     | some c=>some (.e (.s (.it .i64 c)),[])
     | none=>none) else none
   | _,_=>none
  | _=>none
def Dj:Con (SR β) where
 fn:=52
 app:=fun db b args=>match args with
  | [.e (.s (.bl false)),.e (.s (.os s))]=>match findD db s with
   | some (e,k)=>some (.e (.a [.bl false,.os b]),[.l b (.abs (.num e)) k])
   | none=>none
  | _=>none
def cr:List (Con (SR β)):=[CX β,yt β 39 .mul (fun a b=>a+b),yt β 49 .add (fun a b=>max a b+1),DU β,Dp β,Dw β h,DT β h,Dj β]
end
section
variable {β:Nat→Rat} {h:Hint} {f:FuncId} {vals:Array Value} {W:World} {ρ:Env} {b:Nat}
theorem QH:(CX β).Ok Tryz.prog (SR β) EV:=by
 refine Con.ok0 rfl ?_
 intro db b args res new ha ρ W hf hE
 simp only [CX] at ha
 split at ha
 ·rename_i s s' t
  split at ha
  ·rename_i hh
   simp only [Bool.and_eq_true,decide_eq_true_eq] at hh
   obtain ⟨rfl,rfl⟩:=hh
   split at ha
   ·rename_i e k hx
    cases ha
    obtain ⟨h1,h2⟩:=hf _ (mM hx)
    exact BK (Z4.Ji _ _ W h1) (by omega) rfl (by simpa using h2.2)
   ·cases ha
  ·cases ha
 ·cases ha
theorem I7 {f:FuncId} {o:RE→RE→RE} {sz:Nat→Nat→Nat} {zo:Int→Int→Int} (hc:∀ a b v v' W k k',k≤K1→k'≤K1→Z4.IsZ W v a→Z4.IsZ W v' b→a.natAbs<B64 ^ k→b.natAbs<B64 ^ k'→EV W→Calls Tryz.prog f #[v,v'] W (Z4.iO W (zo a b)))
  (ho:∀ (a b:Int) (e e':RE),(a:Rat)=e.ev β→(b:Rat)=e'.ev β→((zo a b:Int):Rat)=(o e e').ev β) (hs:∀ (a b:Int) k k',a.natAbs<B64 ^ k→b.natAbs<B64 ^ k'→(zo a b).natAbs<B64 ^ (sz k k')):(yt β f o sz).Ok Tryz.prog (SR β) EV:=by
 refine Con.ok0 rfl ?_
 intro db b args res new ha ρ W hf hE
 simp only [yt] at ha
 split at ha
 ·split at ha
  ·rename_i x y _ _ e k e' k' hx hy
   split at ha
   ·rename_i hk
    simp only [Bool.and_eq_true,decide_eq_true_eq] at hk
    cases ha
    obtain ⟨z,h1,h2,h3⟩:=qh hx hf
    obtain ⟨z',g1,g2,g3⟩:=qh hy hf
    exact Ip (hc z z' _ _ W k k' hk.1 hk.2 h1 g1 h3 g3 hE) (ho z z' e e' h2 g2) (hs z z' k k' h3 g3)
   ·cases ha
  ·cases ha
 ·cases ha
theorem Rn:(DU β).Ok Tryz.prog (SR β) EV:=by
 refine Con.ok0 rfl ?_
 intro db b args res new ha ρ W hf hE
 simp only [DU] at ha
 split at ha
 ·split at ha
  ·rename_i e k hx
   cases ha
   obtain ⟨z,h1,h2,h3⟩:=qh hx hf
   exact Ip (e:=.neg e) (Z4.GY z _ W h1) (by rw [Rat.intCast_neg,h2];rfl) (by rw [Int.natAbs_neg];exact h3)
  ·cases ha
 ·cases ha
theorem QT:(Dp β).Ok Tryz.prog (SR β) EV:=by
 refine Con.ok0 rfl ?_
 intro db b args res new ha ρ W hf hE
 simp only [Dp] at ha
 split at ha
 ·rename_i n
  split at ha
  ·rename_i hk
   simp only [Bool.and_eq_true,decide_eq_true_eq] at hk
   cases ha
   refine BK (e:=.c n) ((Z4.rV n (by omega) hk.2 W).mono fun e W' ⟨s,ds,he,hl,hd,ht,hv,hb⟩=>?_) hk.1 rfl (by rw [Nat.pow_one];unfold B64;omega)
   obtain ⟨p,l,c,rfl⟩:=hl.mk
   exact ⟨_,he,⟨p,l,c,ds,rfl,hl.mono (Nat.zero_le _),hd,ht,hv⟩,hb⟩
  ·cases ha
 ·cases ha
theorem JJ {z d:Int} {k k':Nat} (hd:d≠0) (h1:z.natAbs<B64 ^ k) (h2:d.natAbs<B64 ^ k'):Fits (max k k') ((z:Rat) / (d:Rat)):=by
 have a1:=Nat.pow_le_pow_right (show 0<B64 by decide) (Nat.le_max_left k k')
 have a2:=Nat.pow_le_pow_right (show 0<B64 by decide) (Nat.le_max_right k k')
 have key:∀ (z:Int) (m:Nat),m≠0→z.natAbs<B64 ^ k→m<B64 ^ k'→Fits (max k k') (mkRat z m):=fun z m hm a b=>by
  obtain ⟨e1,-,e3⟩:=Z4.wP z m _ hm rfl
  exact ⟨by rw [e1];have:=Nat.div_le_self z.natAbs (Nat.gcd z.natAbs m);omega,by rw [e3];have:=Nat.div_le_self m (Nat.gcd z.natAbs m);omega⟩
 rcases Int.lt_or_le d 0 with h0 | h0
 ·obtain ⟨m,rfl⟩:∃ m:Nat,d = -(m:Int):=⟨d.natAbs,by omega⟩
  rw [show (z:Rat) / ((-(m:Int):Int):Rat)=mkRat (-z) m by rw [← Rat.divInt_eq_div,← Rat.divInt_ofNat,Rat.divInt_eq_divInt_iff (by omega) (by omega)];grind]
  exact key _ _ (by omega) (by omega) (by omega)
 ·obtain ⟨m,rfl⟩:∃ m:Nat,d=(m:Int):=⟨d.natAbs,by omega⟩
  rw [show (z:Rat) / (((m:Int):Int):Rat)=mkRat z m by rw [← Rat.divInt_eq_div,← Rat.divInt_ofNat]]
  exact key _ _ (by omega) h1 (by omega)
theorem QX (ok:h.Ok β):(Dw β h).Ok Tryz.prog (SR β) EV:=by
 refine Con.ok0 rfl ?_
 intro db b args res new ha ρ W hf hE
 simp only [Dw] at ha
 split at ha
 ·split at ha
  ·rename_i x y _ _ e k e' k' hx hy
   split at ha
   ·rename_i hk
    simp only [Bool.and_eq_true,Bool.or_eq_true,decide_eq_true_eq] at hk
    cases ha
    obtain ⟨z,h1,h2,h3⟩:=qh hx hf
    obtain ⟨z',g1,g2,g3⟩:=qh hy hf
    have hne:e'.ev β≠0:=by
     rcases hk.2 with h | h
     ·exact qX h
     ·exact jd ok h
    have hz':z'≠0:=fun h0=>hne (by rw [← g2,h0];rfl)
    have hc:=MG hz' h1 g1 (Nat.lt_of_lt_of_le h3 (Nat.pow_le_pow_right (by decide) hk.1.1)) (Nat.lt_of_lt_of_le g3 (Nat.pow_le_pow_right (by decide) hk.1.2)) hE
    have hfit:=JJ hz' h3 g3
    rw [h2,g2] at hc hfit
    exact PV (e:=.div e e') hc hfit
   ·cases ha
  ·cases ha
 ·cases ha
theorem CP {a b:Int}:bn (a:Rat) (b:Rat)=(if a<b then -1 else if a=b then 0 else 1):=by
 unfold bn
 have e:((a:Int):Rat)=((b:Int):Rat)↔a=b:=by exact_mod_cast Iff.rfl
 have l:((a:Int):Rat)<((b:Int):Rat)↔a<b:=by exact_mod_cast Iff.rfl
 simp only [e,l]
theorem Rl (ok:h.Ok β):(DT β h).Ok Tryz.prog (SR β) EV:=by
 refine Con.ok0 rfl ?_
 intro db b args res new ha ρ W hf hE
 simp only [DT] at ha
 split at ha
 ·split at ha
  ·rename_i x y _ _ e k e' k' hx hy
   split at ha
   ·rename_i hk
    simp only [Bool.and_eq_true,decide_eq_true_eq] at hk
    split at ha
    ·rename_i c hc
     cases ha
     obtain ⟨z,h1,h2,h3⟩:=qh hx hf
     obtain ⟨z',g1,g2,g3⟩:=qh hy hf
     have hcc:=lZ ok hc
     rw [← h2,← g2,CP] at hcc
     have a1:=Nat.pow_le_pow_right (show 0<B64 by decide) hk.1
     have a2:=Nat.pow_le_pow_right (show 0<B64 by decide) hk.2
     have:=aac h1 g1 (by omega) (by omega) hE
     rw [hcc] at this
     exact PS this
    ·cases ha
   ·cases ha
  ·cases ha
 ·cases ha
theorem QN:(Dj β).Ok Tryz.prog (SR β) EV:=by
 refine Con.ok0 rfl ?_
 intro db b args res new ha ρ W hf hE
 simp only [Dj] at ha
 split at ha
 ·rename_i s
  split at ha
  ·rename_i e k hx
   cases ha
   obtain ⟨h1,h2⟩:=hf _ (mM hx)
   obtain ⟨xs,-,g1,g2,g3,g4⟩:=(Z4.IsR.num h1).parts
   have hc:=Z4.Gu false (.slice (ρ s).p (ρ s).l (ρ s).c) xs W g1 g2 g3
   rw [if_neg (by decide),g4] at hc
   refine BK (e:=.abs (.num e)) hc (by omega) ?_ (by simpa using h2.1)
   show _=if ((((e.ev β).num:Int):Rat)).num<0 then -((((e.ev β).num:Int):Rat)) else (((e.ev β).num:Int):Rat)
   rw [Rat.num_intCast]
   split
   ·rw [show (((e.ev β).num.natAbs:Nat):Int) = -(e.ev β).num by omega,Rat.intCast_neg]
   ·rw [show (((e.ev β).num.natAbs:Nat):Int)=(e.ev β).num by omega]
  ·cases ha
 ·cases ha
theorem mD (ok:h.Ok β):∀ c∈cr β h,c.Ok Tryz.prog (SR β) EV:=by
 have pk:∀ {k:Nat},k≤K1→B64 ^ k≤B64 ^ K1:=fun h=>Nat.pow_le_pow_right (show 0<B64 by decide) h
 unfold cr
 simp only [List.forall_mem_cons,List.not_mem_nil,false_imp_iff,implies_true,and_true]
 refine ⟨QH,I7 (zo:=(· * ·)) (fun a b v v' W k k' hk hk' h1 h2 h3 h4 hE=>?_) (fun a b e e' h1 h2=>by rw [Rat.intCast_mul,h1,h2];rfl) (fun a b k k' h1 h2=>by rw [Int.natAbs_mul,Nat.pow_add];exact Nat.mul_lt_mul'' h1 h2),
  I7 (zo:=(· + ·)) (fun a b v v' W k k' hk hk' h1 h2 h3 h4 hE=>OD h1 h2 (Nat.lt_of_lt_of_le h3 (pk hk)) (Nat.lt_of_lt_of_le h4 (pk hk')) hE) (fun a b e e' h1 h2=>by rw [Rat.intCast_add,h1,h2];rfl) (fun a b k k' h1 h2=>?_),Rn,QT,QX ok,Rl ok,QN⟩
 ·have a1:=Nat.pow_le_pow_right (show 0<B64 by decide) (Nat.le_max_left k k')
  have a2:=Nat.pow_le_pow_right (show 0<B64 by decide) (Nat.le_max_right k k')
  have hB:=vM (max k k')
  exact Z4.OG a b v v' W h1 h2 (5*max k k') (by simp only [K1] at hk hk';omega) (by omega) (by omega)
 ·have a1:=Nat.pow_le_pow_right (show 0<B64 by decide) (Nat.le_max_left k k')
  have a2:=Nat.pow_le_pow_right (show 0<B64 by decide) (Nat.le_max_right k k')
  rw [Nat.pow_succ]
  have:B64 ^ max k k' * 2≤B64 ^ max k k' * B64:=Nat.mul_le_mul_left _ (by decide)
  omega
end
end Rx
namespace Rx
open Go.RowKit
def xK (db:List Fd):List Cell→Option RE
 | [.ob a,.os b,.bl false,.os c]=>if a=b && a+1=c then (match findD db a with
   | some (e,_)=>some e
   | none=>none) else if a=b then (match oH db a,iF db c with
   | some (.neg (.num x),_),some (.den y,_)=>if x.beq y then some (.neg x) else none
   | some (e,_),some (.c 1,_)=>some e
   | _,_=>none) else none
 | [.bl false,.os b,.bl false,.os c]=>match iF db b,iF db c with
   | some (.abs (.num x),_),some (.den y,_)=>if x.beq y then some (.abs x) else none
   | some (.c n,_),some (.c 1,_)=>some (.c n)
   | _,_=>none
 | _=>none
def isR (e:RE):Option (SV×List Fd)→Bool
 | some (.e (.a cs),fs)=>match xK fs cs with
  | some e'=>e'.beq e
  | none=>false
 | _=>false
theorem U9 {e:RE} {o:Option (SV×List Fd)} (h:isR e o=true):∃ cs fs,o=some (.e (.a cs),fs)∧xK fs cs=some e:=by
 unfold isR at h
 split at h
 ·split at h
  ·rename_i cs fs _ e' ha;exact ⟨cs,fs,rfl,by rw [ha,RE.beq_eq h]⟩
  ·cases h
 ·cases h
section
variable {β:Nat→Rat} {ρ:Env} {W:World} {db:List Fd}
theorem qL {v:Value} {r:Rat} {k:Nat} {z:Int} (h:IsY W v r k) (e:r=(z:Rat)):Z4.IsZ W v z:=by
 obtain ⟨y,h1,h2,-⟩:=h
 rw [e] at h2
 have:y=z:=by exact_mod_cast h2
 exact this ▸ h1
theorem Pn (r:Rat):(if r.num<0 then -r else r).den=r.den:=by split <;> simp
theorem Po (x:RE):(RE.abs (.num x)).ev β=(((RE.abs x).ev β).num:Rat):=by
 show (if (((x.ev β).num:Int):Rat).num<0 then -(((x.ev β).num:Int):Rat) else (((x.ev β).num:Int):Rat))=((if (x.ev β).num<0 then -x.ev β else x.ev β).num:Rat)
 by_cases h:(x.ev β).num<0
 ·rw [if_pos h,if_pos (by rw [Rat.num_intCast];exact h),Rat.neg_num,Rat.intCast_neg]
 ·rw [if_neg h,if_neg (by rw [Rat.num_intCast];exact h)]
theorem PZ {cs:List Cell} {e:RE} (h:xK db cs=some e) (hf:∀ f∈db,(SR β).on ρ f W):Z4.IsR W (.agg (cs.map (Cell.den ρ)).toArray) (e.ev β):=by
 unfold xK at h
 split at h
 ·rename_i a b c
  split at h
  ·rename_i hh
   simp only [Bool.and_eq_true,decide_eq_true_eq] at hh
   obtain ⟨rfl,rfl⟩:=hh
   split at h
   ·rename_i e' k hx
    cases h
    exact (hf _ (mM hx)).1
   ·cases h
  ·split at h
   ·rename_i hab
    subst hab
    split at h
    ·rename_i x k y k' hx hy
     split at h
     ·rename_i hxy
      cases h
      rw [← RE.beq_eq hxy] at hy
      have h1:=qL (z:=(-x.ev β).num) (hf _ (mO hx)) (by rw [Rat.neg_num,Rat.intCast_neg];rfl)
      have h2:=qL (z:=((-x.ev β).den:Int)) (oN (hf _ (gy hy))) (by rw [Rat.neg_den];rfl)
      exact .mk2 h1 h2
     ·cases h
    ·rename_i e' k k' _ hx hy
     cases h
     obtain ⟨z,hz,hz2,-⟩:=(show IsY W _ _ _ from hf _ (mO hx))
     have h2:=qL (z:=((e.ev β).den:Int)) (oN (hf _ (gy hy))) (by rw [← hz2,Rat.den_intCast];rfl)
     exact .mk2 (by rw [← hz2,Rat.num_intCast];exact hz) h2
    ·cases h
   ·cases h
 ·rename_i b c
  split at h
  ·rename_i x k y k' hx hy
   split at h
   ·rename_i hxy
    cases h
    rw [← RE.beq_eq hxy] at hy
    have h1:=qL (z:=((RE.abs x).ev β).num) (oN (hf _ (gy hx))) (Po x)
    have h2:=qL (z:=(((RE.abs x).ev β).den:Int)) (oN (hf _ (gy hy))) (by
     show _=((((if (x.ev β).num<0 then -x.ev β else x.ev β).den:Nat):Int):Rat)
     rw [Pn];rfl)
    exact .mk2 h1 h2
   ·cases h
  ·rename_i n k k' hx hy
   cases h
   have h1:=qL (z:=((RE.c n).ev β).num) (oN (hf _ (gy hx))) (by simp [RE.ev])
   have h2:=qL (z:=(((RE.c n).ev β).den:Int)) (oN (hf _ (gy hy))) (by simp [RE.ev])
   exact .mk2 h1 h2
  ·cases h
 ·cases h
end
section
variable {β:Nat→Rat} {h:Hint} {fuel:Nat} {f:FuncId} {args:List SV} {fs:List Fd} {n0:Nat} {ρ:Env} {w:World}
theorem rC {cons:List (Con (SR β))} {e:RE} {r:Rat} (hc:∀ c∈cons,c.Ok Tryz.prog (SR β) EV) (hr:isR e (bg Tryz.prog (SR β) (HR β) cons fuel f args fs n0)=true) (he:e.ev β=r) (hE:EV w) (hf:∀ g∈fs,Fd.on β ρ g w):Calls Tryz.prog f (args.map (SV.den ρ)).toArray w (Z4.jB w r):=by
 obtain ⟨cs,fs',heq,ha⟩:=U9 hr
 refine (iw mixed hc heq (aY hE) hf).mono fun x W' ⟨ρ',_,hx,hb,hfs⟩=>?_
 have:=PZ ha hfs
 rw [he] at this
 exact ⟨_,hx,this,hb⟩
theorem Nk {cons:List (Con (SR β))} {y:Int} (hc:∀ c∈cons,c.Ok Tryz.prog (SR β) EV) (hr:isJ y (bg Tryz.prog (SR β) (HR β) cons fuel f args fs n0)=true) (hE:EV w) (hf:∀ g∈fs,Fd.on β ρ g w):Calls Tryz.prog f (args.map (SV.den ρ)).toArray w (aX w (.int .i64 y)):=by
 obtain ⟨fs',heq⟩:=Ko hr
 exact (iw mixed hc heq (aY hE) hf).mono fun x W' ⟨ρ',_,hx,hb,_⟩=>⟨hx,hb⟩
end
abbrev K2:Nat:=65536
abbrev rr (s:Nat):SV:=.e (.a (dw s))
section
variable {a b:Rat} {v1 v2:Value} {W:World}
theorem Fh {f:FuncId} {R:Ending→World→Prop} (h1:Z4.IsR W v1 a) (f1:Fits K2 a)
  (go:∀ ρ:Env,(∀ g∈[Fd.r 0 (.v 0) K2],Fd.on (bet [a]) ρ g W)→Calls Tryz.prog f ([rr 0].map (SV.den ρ)).toArray W R):Calls Tryz.prog f #[v1] W R:=by
 obtain ⟨c,d,rfl⟩:=rD h1
 refine go (ev [c,d]) fun g hg=>?_
 simp only [List.mem_cons,List.not_mem_nil,or_false] at hg
 subst hg
 exact ⟨h1,f1⟩
theorem AL {f:FuncId} {R:Ending→World→Prop} (h1:Z4.IsR W v1 a) (h2:Z4.IsR W v2 b) (f1:Fits K2 a) (f2:Fits K2 b)
  (go:∀ ρ:Env,(∀ g∈[Fd.r 0 (.v 0) K2,.r 2 (.v 1) K2],Fd.on (bet [a,b]) ρ g W)→Calls Tryz.prog f ([rr 0,rr 2].map (SV.den ρ)).toArray W R):Calls Tryz.prog f #[v1,v2] W R:=by
 obtain ⟨c,d,rfl⟩:=rD h1
 obtain ⟨c',d',rfl⟩:=rD h2
 refine go (ev [c,d,c',d']) fun g hg=>?_
 simp only [List.mem_cons,List.not_mem_nil,or_false] at hg
 rcases hg with rfl | rfl
 ·exact ⟨h1,f1⟩
 ·exact ⟨h2,f2⟩
abbrev nn (x:RE):RE:=.num x
abbrev dd (x:RE):RE:=.den x
theorem nX (r:Rat):(((r.den:Nat):Int):Rat)≠0:=fun h=>by
 have h2:((r.den:Nat):Int)=0:=by exact_mod_cast h
 have:=r.den_nz
 omega
theorem uz (r:Rat):(r.num:Rat)=r*(((r.den:Nat):Int):Rat):=by
 have h1:r=(r.num:Rat) / (((r.den:Nat):Int):Rat):=by
  have:=(Rat.num_divInt_den r).symm
  rwa [Rat.divInt_eq_div] at this
 have h2:(r.num:Rat) / (((r.den:Nat):Int):Rat)*(((r.den:Nat):Int):Rat)=(r.num:Rat):=Rat.div_mul_cancel (nX r)
 rw [← h1] at h2
 exact h2.symm
theorem Px (a b:Rat):((a.num:Rat)*(((b.den:Nat):Int):Rat)+(b.num:Rat)*(((a.den:Nat):Int):Rat)) / ((((a.den:Nat):Int):Rat)*(((b.den:Nat):Int):Rat))=a+b:=by
 have ha:=nX a
 have hb:=nX b
 have hab:(((a.den:Nat):Int):Rat)*(((b.den:Nat):Int):Rat)≠0:=fun h=>(Rat.mul_eq_zero.1 h).elim ha hb
 rw [uz a,uz b]
 generalize (((a.den:Nat):Int):Rat)=x at *
 generalize (((b.den:Nat):Int):Rat)=y at *
 rw [show a*x*y+b*y*x=(a+b)*(x*y) by grind,Rat.mul_div_cancel hab]
theorem Wu (a b:Rat):((a.num:Rat)*(b.num:Rat)) / ((((a.den:Nat):Int):Rat)*(((b.den:Nat):Int):Rat))=a*b:=by
 have ha:=nX a
 have hb:=nX b
 have hab:(((a.den:Nat):Int):Rat)*(((b.den:Nat):Int):Rat)≠0:=fun h=>(Rat.mul_eq_zero.1 h).elim ha hb
 rw [uz a,uz b]
 generalize (((a.den:Nat):Int):Rat)=x at *
 generalize (((b.den:Nat):Int):Rat)=y at *
 rw [show a*x*(b*y)=(a*b)*(x*y) by grind,Rat.mul_div_cancel hab]
theorem SH (a b:Rat) (hn:b≠0):((a.num:Rat)*(((b.den:Nat):Int):Rat)) / ((((a.den:Nat):Int):Rat)*(b.num:Rat))=a / b:=by
 have ha:=nX a
 have hb:=nX b
 rw [uz a,uz b]
 generalize (((a.den:Nat):Int):Rat)=x at *
 generalize (((b.den:Nat):Int):Rat)=y at *
 have hxy:b*(x*y)≠0:=fun h=>(Rat.mul_eq_zero.1 h).elim hn (fun h=>(Rat.mul_eq_zero.1 h).elim ha hb)
 have h1:a / b*b=a:=Rat.div_mul_cancel hn
 rw [show a*x*y=(a / b)*(b*(x*y)) by rw [← Rat.mul_assoc,h1];grind,show x*(b*y)=b*(x*y) by grind,Rat.mul_div_cancel hxy]
theorem X4 (h1:Z4.IsR W v1 a) (h2:Z4.IsR W v2 b) (f1:Fits K2 a) (f2:Fits K2 b) (hE:EV W):Calls Tryz.prog 16 #[v1,v2] W (Z4.jB W (a+b)):=
 AL h1 h2 f1 f2 fun ρ hg=>rC (β:=bet [a,b]) (e:=.div (.add (.mul (nn (.v 0)) (dd (.v 1))) (.mul (nn (.v 1)) (dd (.v 0)))) (.mul (dd (.v 0)) (dd (.v 1)))) (fuel:=1) (n0:=4) (mD (bP _)) (by kernel_rfl) (Px a b) hE hg
theorem Yo (h1:Z4.IsR W v1 a) (h2:Z4.IsR W v2 b) (f1:Fits K2 a) (f2:Fits K2 b) (hE:EV W):Calls Tryz.prog 20 #[v1,v2] W (Z4.jB W (a*b)):=
 AL h1 h2 f1 f2 fun ρ hg=>rC (β:=bet [a,b]) (e:=.div (.mul (nn (.v 0)) (nn (.v 1))) (.mul (dd (.v 0)) (dd (.v 1)))) (fuel:=1) (n0:=4) (mD (bP _)) (by kernel_rfl) (Wu a b) hE hg
theorem Yd (h1:Z4.IsR W v1 a) (h2:Z4.IsR W v2 b) (f1:Fits K2 a) (f2:Fits K2 b) (hn:b≠0) (hE:EV W):Calls Tryz.prog 12 #[v1,v2] W (Z4.jB W (a / b)):=
 have hd:(a.den:Int)≠0:=by have:=a.den_nz;omega
 have hb:b.num≠0:=fun e=>hn (Rat.num_eq_zero.1 e)
 have ok:Hint.Ok (bet [a,b]) { nz:=[.mul (dd (.v 0)) (nn (.v 1))] }:=⟨fun p h=>(by cases h),fun p h=>(by cases h),fun p hp=>(by
  simp at hp;subst hp
  intro h
  rcases Rat.mul_eq_zero.1 (show (((a.den:Nat):Int):Rat)*(b.num:Rat)=0 from h) with h | h
  ·exact nX a h
  ·exact hb (by exact_mod_cast h)),fun p h=>(by cases h),fun p h=>(by cases h)⟩
 AL h1 h2 f1 f2 fun ρ hg=>rC (β:=bet [a,b]) (e:=.div (.mul (nn (.v 0)) (dd (.v 1))) (.mul (dd (.v 0)) (nn (.v 1)))) (fuel:=1) (n0:=4) (mD ok) (by kernel_rfl) (SH a b hn) hE hg
theorem Yp (h1:Z4.IsR W v1 a) (f1:Fits K2 a) (hE:EV W):Calls Tryz.prog 22 #[v1] W (Z4.jB W (-a)):=
 Fh h1 f1 fun ρ hg=>rC (β:=bet [a]) (e:=.neg (.v 0)) (fuel:=1) (n0:=4) (mD (bP _)) (by kernel_rfl) rfl hE hg
theorem X3 (h1:Z4.IsR W v1 a) (f1:Fits K2 a) (hE:EV W):Calls Tryz.prog 24 #[v1] W (Z4.jB W (if a.num<0 then -a else a)):=
 Fh h1 f1 fun ρ hg=>rC (β:=bet [a]) (e:=.abs (.v 0)) (fuel:=1) (n0:=4) (mD (bP _)) (by kernel_rfl) rfl hE hg
theorem Ym (hE:EV W):Calls Tryz.prog 14 #[.int .i64 1] W (Z4.jB W (1:Rat)):=
 rC (β:=bet []) (ρ:=ev []) (args:=[.e (.s (.it .i64 1))]) (fs:=[]) (e:=.c 1) (fuel:=1) (n0:=0) (mD (bP _)) (by kernel_rfl) rfl hE (fun g hg=>by cases hg)
theorem Yn (hE:EV W):Calls Tryz.prog 14 #[.int .i64 2] W (Z4.jB W (2:Rat)):=
 rC (β:=bet []) (ρ:=ev []) (args:=[.e (.s (.it .i64 2))]) (fs:=[]) (e:=.c 2) (fuel:=1) (n0:=0) (mD (bP _)) (by kernel_rfl) rfl hE (fun g hg=>by cases hg)
theorem Qr (a b:Rat):bn a b = -1∨bn a b=0∨bn a b=1:=by
 unfold bn
 split
 ·exact .inl rfl
 ·split
  ·exact .inr (.inl rfl)
  ·exact .inr (.inr rfl)
theorem NH (a:Rat):sgQ a=if a.num<0 then -1 else if a.num=0 then 0 else 1:=by
 unfold sgQ sgn
 by_cases h:a.num<0
 ·rw [if_pos (decide_eq_true h),if_pos h]
 ·rw [if_neg (by simpa using h),if_neg h]
  by_cases h0:a.num=0
  ·rw [if_pos (by omega),if_pos h0]
  ·rw [if_neg (by omega),if_neg h0]
theorem sg3 (a:Rat):sgQ a = -1∨sgQ a=0∨sgQ a=1:=by
 rw [NH]
 split
 ·exact .inl rfl
 ·split
  ·exact .inr (.inl rfl)
  ·exact .inr (.inr rfl)
theorem Qy (a b:Rat):bn ((a.num:Rat)*(((b.den:Nat):Int):Rat)) ((b.num:Rat)*(((a.den:Nat):Int):Rat))=bn a b:=by
 rw [← Rat.intCast_mul,← Rat.intCast_mul,CP,IJ]
 rfl
theorem X8 (h1:Z4.IsR W v1 a) (h2:Z4.IsR W v2 b) (f1:Fits K2 a) (f2:Fits K2 b) (hE:EV W):Calls Tryz.prog 26 #[v1,v2] W (aX W (.int .i64 (bn a b))):=by
 have ok:∀ y,bn a b=y→Hint.Ok (bet [a,b]) { cm:=[(.mul (nn (.v 0)) (dd (.v 1)),.mul (nn (.v 1)) (dd (.v 0)),y)] }:=fun y hy=>lH (fun p hp=>by simp at hp;subst hp;exact (Qy a b).trans hy) (fun p h=>by cases h) (fun p h=>by cases h)
 obtain hy | hy | hy:=Qr a b
 all_goals (rw [hy];exact AL h1 h2 f1 f2 fun ρ hg=>Nk (β:=bet [a,b]) (fuel:=1) (n0:=4) (mD (ok _ hy)) (by kernel_rfl) hE hg)
theorem Zb (a:Rat):bn (a.num:Rat) 0=sgQ a:=by
 rw [show (0:Rat)=((0:Int):Rat) from rfl,CP,NH]
theorem YC (h1:Z4.IsR W v1 a) (f1:Fits K2 a) (hE:EV W):Calls Tryz.prog 11 #[v1] W (aX W (.int .i64 (sgQ a))):=by
 have ok:∀ y,sgQ a=y→Hint.Ok (bet [a]) { cm:=[(nn (.v 0),.c 0,y)] }:=fun y hy=>lH (fun p hp=>by simp at hp;subst hp;exact (Zb a).trans hy) (fun p h=>by cases h) (fun p h=>by cases h)
 obtain hy | hy | hy:=sg3 a
 all_goals (rw [hy];exact Fh h1 f1 fun ρ hg=>Nk (β:=bet [a]) (fuel:=1) (n0:=4) (mD (ok _ hy)) (by kernel_rfl) hE hg)
end
end Rx
namespace Rx
open Go.RowKit
section
variable {a b c d:Rat} {v1 v2:Value} {W:World}
end
theorem Xh (r:Rat):1+r*r≠0:=by
 have h:0≤r*r:=by
  rcases Rat.le_total (a:=0) (b:=r) with h | h
  ·exact Rat.mul_nonneg h h
  ·have:=Rat.mul_nonneg (show 0≤-r by grind) (show 0≤-r by grind);grind
 grind
def tC (e:RE):RE:=.div (.sub (.c 1) (.mul e e)) (.add (.c 1) (.mul e e))
def tS (e:RE):RE:=.div (.add e e) (.add (.c 1) (.mul e e))
theorem Z5 {a:Rat} {v:Value} {W:World} (h:IsQ W v a) (f:Fits K1 a) (hE:EV W):Calls Tryz.prog 58 #[v] W (Bj W ((1 - a*a) / (1+a*a)) ((a+a) / (1+a*a))):=by
 obtain ⟨c,d,rfl⟩:=Ah h
 have ok:Hint.Ok (bet [a]) { nz:=[.add (.c 1) (.mul (.v 0) (.v 0))] }:=⟨fun p h=>(by cases h),fun p h=>(by cases h),fun p hp=>(by simp at hp;subst hp;exact Xh a),fun p h=>(by cases h),fun p h=>(by cases h)⟩
 exact Y2 (β:=bet [a]) (ρ:=ev [c,d]) (args:=[.e (.a (aO 0))]) (fs:=[.q 0 (.v 0) K1]) (e:=tC (.v 0)) (e':=tS (.v 0)) (ok:=ok) (fuel:=1) (b:=2) (DY ok) (by kernel_rfl) hE fun g hg=>by
  rw [List.mem_singleton] at hg;subst hg;exact ⟨h,f⟩
section
variable (β:Nat→Rat) (h:Hint)
def yj:Con (SQ β) where
 fn:=58
 app:=fun db b args=>match args with
  | [.e (.a x)]=>match fF db x with
   | some (e,k)=>if k≤K1 then some (pr b,[.q b (tC e) (4*k+5),.q (b+2) (tS e) (4*k+5)]) else none
   | _=>none
  | _=>none
def U1:List Cell→Option Nat
 | [.oi a,.oi b,.o8 c]=>if a+1=b && a+2=c then some a else none
 | _=>none
end
section
variable {β:Nat→Rat} {h:Hint}
theorem Rk:(yj β).Ok Tryz.prog (SQ β) EV:=by
 refine Con.ok0 rfl ?_
 intro db b args res new ha ρ W hf hE
 simp only [yj] at ha
 split at ha
 ·split at ha
  ·rename_i e k hx
   split at ha
   ·rename_i hk
    cases ha
    obtain ⟨⟨h1,h2⟩,-⟩:=iC hx hf
    have f1:Fits 1 (1:Rat):=fits_int (n:=1) (by decide) (by decide)
    have fm:=h2.mul h2
    have fp:=f1.plus fm
    have fs:=f1.minus fm
    have fa:=h2.plus h2
    exact PW (e:=tC e) (e':=tS e) (Z5 h1 (h2.mono hk) hE)
     ((fs.over fp).mono (by omega)) ((fa.over fp).mono (by omega))
   ·cases ha
  ·cases ha
 ·cases ha
end
end Rx
namespace Rx
open Go.RowKit
def jZ (db:List Fc):List Cell→Option (RE×Nat)
 | [.ob a,.os b,.bl false,.os c]=>if a=b && a+1=c then qA db a else none
 | _=>none
theorem lX {β:Nat→Rat} {ρ:Env} {W:World} {db:List Fc} {cs:List Cell} {e:RE} {k:Nat} (h:jZ db cs=some (e,k)) (hf:∀ f∈db,(SQ β).on ρ f W):Z4.IsR W (.agg (cs.map (Cell.den ρ)).toArray) (e.ev β)∧Fits k (e.ev β):=by
 unfold jZ at h
 split at h
 ·rename_i a b c
  split at h
  ·rename_i hh
   simp only [Bool.and_eq_true,decide_eq_true_eq] at hh
   obtain ⟨rfl,rfl⟩:=hh
   exact hf _ (kG h)
  ·cases h
 ·cases h
end Rx
namespace Z4
open Go.RowKit Go.Sort Go.Lib
theorem G6 (z:Int) (v:Value) (w:World) (h:IsZ w v z) (k:Nat) (hk:k≤1073741824) (ka:z.natAbs<B64 ^ k):Calls Tryz.prog 70 #[v] w (gW w (iL z)):=by
 obtain ⟨p,l,c,xs,rfl,hl,dx,tx,hv⟩:=h
 have hlen:=hl.len
 rcases Nat.eq_zero_or_pos xs.length with h0 | h0
 ·have hz:=(rU dx tx).1 h0
  have e0:z=0:=by omega
  have el:l=0:=by omega
  subst e0;subst el
  have:=OL (decide ((0:Int)<0)) p c w
  rwa [show iL 0=[48] by unfold iL;rw [if_neg (by decide),decDigits];rfl]
 ·have hz:0<val xs:=by
   rcases Nat.eq_zero_or_pos (val xs) with h | h
   ·have:=(rU dx tx).2 h;omega
   ·exact h
  have hle:xs.length≤5*k:=jw tx (Nat.lt_of_lt_of_le (by rw [hv];exact ka) (by rw [Nat.pow_mul];exact Nat.pow_le_pow_left (by decide) k))
  rcases hl with ⟨he,rfl⟩ | ⟨b,o,k',he,-,hb,-,hi⟩
  ·simp at h0
  ·injection he with e1 e2 e3
   subst e1;subst e2;subst e3
   have:=aar (decide (z<0)) b o c xs w hb hi dx hz (by omega)
   rw [hv] at this
   unfold iL
   by_cases hz0:z<0
   ·rw [decide_eq_true hz0] at this ⊢
    rw [if_pos rfl] at this
    rw [if_pos hz0];exact this
   ·rw [decide_eq_false hz0] at this ⊢
    rw [if_neg (by decide)] at this
    rw [if_neg hz0];exact this
theorem Jg (n:Nat):decDigits n=[49]↔n=1:=by
 constructor
 ·intro h
  by_cases h10:n<10
  ·rw [decDigits,dif_pos h10] at h
   have h1:UInt8.ofNat (48+n)=49:=by simpa using h
   have h2:=congrArg UInt8.toNat h1
   rw [UInt8.toNat_ofNat'] at h2
   have:(49:UInt8).toNat=49:=rfl
   omega
  ·rw [decDigits,dif_neg h10] at h
   have h1:=congrArg List.length h
   rw [List.length_append] at h1
   obtain ⟨x,r,h2,-⟩:=Jf (n:=n / 10) (by omega)
   rw [h2] at h1
   simp at h1
 ·rintro rfl;rw [decDigits];rfl
theorem YE (r:Rat):iR r=if decDigits r.den=[49] then iL r.num else iL r.num ++ (47 :: iL (r.den:Int)):=by
 unfold iR iL
 rw [if_neg (show ¬ ((r.den:Int)<0) by omega),List.nil_append,Int.natAbs_natCast]
 by_cases h:r.den=1
 ·rw [if_pos h,if_pos ((Jg _).2 h),List.append_nil]
 ·rw [if_neg h,if_neg (fun e=>h ((Jg _).1 e))]
theorem YD (r:Rat) (v:Value) (w:World) (h:IsR w v r) (k:Nat) (hk:k≤1073741824) (hf:Fits k r):Calls Tryz.prog 34 #[v] w (gW w (iR r)):=by
 obtain ⟨t1,p1,l1,k1,r1,s1,u1,rfl⟩:=h.open
 have HN:=hid (fun (W:World) (a:IsZ W (.agg #[.bool t1,.slice p1 l1 k1]) r.num)=>G6 _ _ W a k hk hf.1)
 have HM:=hid (fun (W:World) (v:Value) (a:IsZ W v (r.den:Int))=>G6 _ v W a k hk (by rw [Int.natAbs_natCast];exact hf.2))
 have HD:=hid (fun (W:World) (a:IsZ W (.agg #[.bool t1,.slice p1 l1 k1]) r.num) (b:IsZ W (.agg #[.bool false,.slice r1 s1 u1]) (r.den:Int))=>Ji r _ W (.mk2 a b))
 have h1:=sU _ k hf.1 hk
 have h2:=sU _ k hf.2 hk
 have e2:iL (r.den:Int)=decDigits r.den:=by
  unfold iL
  rw [if_neg (show ¬ ((r.den:Int)<0) by omega),List.nil_append,Int.natAbs_natCast]
 have hD:(iL r.num).length≤21474836482:=by unfold iL;rw [List.length_append];split <;> simp <;> omega
 have hE:(iL (r.den:Int)).length≤21474836481:=by rw [e2];exact h2
 have hT:=YE r
 rw [← e2] at hT
 have hn:=h.num
 have hd:=h.d
 obtain ⟨D,hD1⟩:∃ D,iL r.num=D:=⟨_,rfl⟩
 obtain ⟨E,hE1⟩:∃ E,iL (r.den:Int)=E:=⟨_,rfl⟩
 obtain ⟨T,hT1⟩:∃ T,iR r=T:=⟨_,rfl⟩
 rw [hD1] at HN hD hT
 rw [hE1] at HM hE hT
 rw [hT1] at hT ⊢
 clear hD1 hE1 hT1 e2 h h1 h2 hf
 have HI:=hid (And.intro hn hd)
 clear hn hd
 have HT:=hid hT
 clear hT
 go_enter Tryz.func34,Tryz.ntmps34
 go_wp2_with fail
 have hS0:=hid ((St.start w).alloc' (w.heap.size) (by simp) 37 [.bool t1,.slice p1 l1 k1,.bool false,.slice r1 s1 u1])
 obtain ⟨W0,hW0⟩:=cu hS0
 rw [hW0] at hS0 ⊢
 clear hW0
 have hS1:=hid ((hS0.out.fact (.z (.agg #[.bool t1,.slice p1 l1 k1]) r.num) (HI.out.1.below hS0.out.bel)).fact (.z (.agg #[.bool false,.slice r1 s1 u1]) (r.den:Int)) (HI.out.2.below hS0.out.bel))
 clear hS0 HI
 obtain ⟨⟨cR0,cR1,cR2,cR3⟩,fR0,fR1,fR2,fR3⟩:=hS1.out.f4 0 w.heap.size 37 (.bool t1) (.slice p1 l1 k1) (.bool false) (.slice r1 s1 u1) rfl
 go_wp2_with fail
 clear cR0 cR1 cR2 cR3 fR0 fR1 fR2 fR3
 refine (HN.out _ (hS1.out.get (f:=.z (.agg #[.bool t1,.slice p1 l1 k1]) r.num) 1 rfl)).mono ?_
 rintro e w1 ⟨rfl,hB⟩
 have hS2:=hid (hS1.out.call hB)
 clear hS1 hB
 obtain ⟨⟨cR0,cR1,cR2,cR3⟩,fR0,fR1,fR2,fR3⟩:=hS2.out.f4 0 w.heap.size 37 (.bool t1) (.slice p1 l1 k1) (.bool false) (.slice r1 s1 u1) rfl
 go_wp2_with fail
 clear cR0 cR1 cR2 cR3 fR0 fR1 fR2 fR3
 refine (HD.out _ (hS2.out.get (f:=.z (.agg #[.bool t1,.slice p1 l1 k1]) r.num) 1 rfl) (hS2.out.get (f:=.z (.agg #[.bool false,.slice r1 s1 u1]) (r.den:Int)) 0 rfl)).mono ?_
 rintro e w2 ⟨v2,rfl,hz2,hB⟩
 have hS3:=hid (hS2.out.call hB)
 clear hS2 hB
 obtain ⟨t2,p2,l2,k2,rfl⟩:=hz2.open
 have hZ:=hid hz2
 clear hz2
 go_wp2_with fail
 refine (HM.out _ _ hZ.out).mono ?_
 rintro e w3 ⟨rfl,hB⟩
 have hS4:=hid (hS3.out.call hB)
 clear hS3 hB hZ
 by_cases he:E=[49]
 ·subst he
  have hT2:=HT.out
  rw [if_pos rfl] at hT2
  subst hT2
  go_wp2
  go_ret
  exact ⟨rfl,hS4.out.bel⟩
 ·have hT2:=HT.out
  rw [if_neg he] at hT2
  have hb:(E == [49])=false:=by simpa using he
  have HT2:=hid hT2
  clear hT2 he HT
  go_wp2
  go_ret
  refine ⟨?_,hS4.out.bel⟩
  rw [HT2.out]
  refine congrArg (fun s=>Ending.returned (Value.string s)) ?_
  apply ByteArray.ext
  simp [ByteArray.data_append]
end Z4
end Go.Proofs.YtancpaiaoamjlaaGreatDoor
