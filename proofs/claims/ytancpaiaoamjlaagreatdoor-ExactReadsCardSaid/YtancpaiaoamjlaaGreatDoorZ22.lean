/- What the proof rests on, part 22. -/
import Derived.Test.YtancpaiaoamjlaaGreatDoorZ21
import Derived.Test.YtancpaiaoamjlaaGreatDoorZ06
import Derived.Test.YtancpaiaoamjlaaGreatDoorZ18
import Derived.Test.YtancpaiaoamjlaaGreatDoorZ05
import Derived.Test.YtancpaiaoamjlaaGreatDoorZ10
import Derived.Test.YtancpaiaoamjlaaGreatDoorZ16
import Derived.Test.YtancpaiaoamjlaaGreatDoorZ02
import Derived.Test.YtancpaiaoamjlaaGreatDoorRows
import Derived.ProofKit
import Derived.Handy
import Derived.Lay
import Derived.SevenTiedAt
import Derived.Lib.SmallJoins
import Derived.Stop.LaidErr
import Derived.Shelf.Vars
namespace Go.Proofs.YtancpaiaoamjlaaGreatDoor
set_option maxRecDepth 100000
set_option maxHeartbeats 80000000
section
open Go.RowKit Go.Sort
theorem Wi (x:Nat) (hx:x<B64) (w:World) (hT:dU w):Calls Tryz.prog 69 #[.agg #[.int .u64 (x:Int),.slice none 0 0]] w (gW w (Lib.decDigits x)):=by
 have H:=hid (fun (W:World) (h:dU W)=>JO x hx W h)
 have HT:=hid hT
 clear hx hT
 go_enter Tryz.func69,Tryz.ntmps69
 go_wp2_with fail
 obtain ⟨W0,hW0⟩:∃ W0,w.alloc (.cells #[.int .u64 (x:Int),.slice none 0 0] 28)=W0:=⟨_,rfl⟩
 have hb0:Below w.heap.size w W0:=hW0 ▸ (Below.refl _ _).alloc (Nat.le_refl _) _
 rw [hW0]
 refine (H.out _ (HT.out.below hb0 (Nat.le_refl _))).mono ?_
 rintro e w' ⟨rfl,hb⟩
 go_wp2
 go_ret
 exact ⟨rfl,hb0.trans (hb.mono hb0.size)⟩
theorem Wh (b o cp:Nat) (xs:List Nat) (w:World) (hx:aF w b o xs) (hb:b<w.heap.size) (dx:Dig xs) (tx:aC xs) (h0:0<xs.length) (hL:xs.length≤1073741824) (hT:dU w):Calls Tryz.prog 69 #[.agg #[.int .u64 0,.slice (some ⟨b,o,none⟩) xs.length cp]] w (gW w (Lib.decDigits (val xs))):=by
 have H:=hid (fun (W:World) (h:aF W b o xs) (h1:b<W.heap.size) (h2:dU W)=>Xe b o cp xs.length xs W h h1 dx tx rfl h0 hL h2)
 have HT:=hid hT
 have HX:=hid hx
 have hn:=lJ
 obtain ⟨D,hD⟩:∃ D,Lib.decDigits (val xs)=D:=⟨_,rfl⟩
 rw [hD] at H ⊢
 clear hT hx dx tx hD
 go_enter Tryz.func69,Tryz.ntmps69
 go_wp2_with fail
 obtain ⟨W0,hW0⟩:∃ W0,w.alloc (.cells #[.int .u64 0,.slice (some ⟨b,o,none⟩) xs.length cp] 28)=W0:=⟨_,rfl⟩
 have hb0:Below w.heap.size w W0:=hW0 ▸ (Below.refl _ _).alloc (Nat.le_refl _) _
 rw [hW0]
 refine (H.out _ (HX.out.below hb0 hb) (Nat.lt_of_lt_of_le hb hb0.size) (HT.out.below hb0 (Nat.le_refl _))).mono ?_
 rintro e w' ⟨rfl,hb⟩
 go_wp2
 go_ret
 exact ⟨rfl,hb0.trans (hb.mono hb0.size)⟩
theorem zS (c d:Value) (n k:Nat) (w:World) (h:ah w c d n) (hk:k≤1073741824) (hn:n<B64 ^ k) (hT:dU w):Calls Tryz.prog 69 #[.agg #[c,d]] w (gW w (Lib.decDigits n)):=by
 rcases h with ⟨h0,rfl,rfl⟩ | ⟨b,o,m,xs,rfl,rfl,h3,h4,h5,h6,h7,h8,h9⟩
 ·exact Wi n h0 w hT
 ·rw [← h8]
  exact Wh b o m xs w h9 h3 h6 h7 (by omega) (Nat.le_trans (aZ h7 (by rw [h8];exact hn)) hk) hT
theorem WM (n k:Nat) (h:n<B64 ^ k):Lib.nDigits n≤20*k+1:=by
 refine zU (20*k) n (Nat.lt_of_lt_of_le h ?_)
 have h1:B64 ^ k≤(10 ^ 20) ^ k:=Nat.pow_le_pow_left (by unfold B64;decide) k
 rw [← Nat.pow_mul] at h1
 refine Nat.le_trans h1 (Nat.pow_le_pow_right (by decide) (by omega))
theorem sU (n k:Nat) (h:n<B64 ^ k) (hk:k≤1073741824):(Lib.decDigits n).length≤21474836481:=by
 rw [Lib.decDigits_length]
 have:=WM n k h
 omega
def iR (r:Rat):List UInt8:=((if r.num<0 then [45] else []) ++ Lib.decDigits r.num.natAbs) ++ (if r.den=1 then [] else 47 :: Lib.decDigits r.den)
structure Q1T (w W:World) (t:Bool) (c d e f:Value) (n m:Nat):Prop where
 b1:C5 W w.heap.size (.bool t) c d e f
 i1:ah W c d n
 j1:ah W e f m
 tab:dU W
 bel:Below w.heap.size w W
 sz:w.heap.size+1≤W.heap.size
theorem Q1T.next {w W W':World} {t:Bool} {c d e f:Value} {n m:Nat} (h:Q1T w W t c d e f n m) (hb:Below W.heap.size W W'):Q1T w W' t c d e f n m where
 b1:=h.b1.below hb (by have:=h.sz;omega)
 i1:=h.i1.below hb
 j1:=h.j1.below hb
 tab:=h.tab.below hb (Nat.le_refl _)
 bel:=h.bel.trans (hb.mono (by have:=h.sz;omega))
 sz:=Nat.le_trans h.sz hb.size
theorem Q1T.start {w:World} (t:Bool) (c d e f:Value) (n m:Nat) (T:TypeId) (i1:ah w c d n) (j1:ah w e f m) (hT:dU w):Q1T w (w.alloc (.cells #[.bool t,c,d,e,f] T)) t c d e f n m:=
 have hb:Below w.heap.size w (w.alloc (.cells #[.bool t,c,d,e,f] T)):=(Below.refl _ _).alloc (Nat.le_refl _) _
 ⟨by refine ⟨?_,?_,?_,?_,?_⟩ <;> simp [World.cell?_alloc_at],i1.below hb,j1.below hb,hT.below hb (Nat.le_refl _),hb,by simp [World.size_alloc]⟩
theorem O5 (t:Bool) (x y:Int) (p r:Option Addr) (l q s v n m k:Nat) (w:World) (hz:(m == 0)=true) (i1:ah w (.int .u64 x) (.slice p l q) n) (j1:ah w (.int .u64 y) (.slice r s v) m) (hk:k≤1073741824) (hn:n<B64 ^ k) (hm:m<B64 ^ k) (hT:dU w):Calls Tryz.prog 33 #[.agg #[.bool t,.int .u64 x,.slice p l q,.int .u64 y,.slice r s v]] w (gW w (((if t then [45] else []) ++ Lib.decDigits n) ++ [])):=by
 have HN:=hid (fun (W:World) (h:dU W) (i:ah W (.int .u64 x) (.slice p l q) n)=>zS _ _ n k W i hk hn h)
 have HM:=hid (fun (W:World) (h:dU W) (i:ah W (.int .u64 y) (.slice r s v) m)=>zS _ _ m k W i hk hm h)
 have HW:=hid (fun (W:World) (i:ah W (.int .u64 y) (.slice r s v) m)=>hz ▸ zl (.bool t) (.int .u64 x) (.slice p l q) _ _ m W i)
 have hd:=sU n k hn hk
 have he:=sU m k hm hk
 obtain ⟨D,hD⟩:∃ D,Lib.decDigits n=D:=⟨_,rfl⟩
 obtain ⟨E,hE⟩:∃ E,Lib.decDigits m=E:=⟨_,rfl⟩
 rw [hD] at HN hd ⊢
 rw [hE] at HM he
 have H0:=hid (Q1T.start t (.int .u64 x) (.slice p l q) (.int .u64 y) (.slice r s v) n m 32 i1 j1 hT)
 clear hD hE hz i1 j1 hn hm hT
 cases t
 all_goals (
  go_enter Tryz.func33,Tryz.ntmps33
  go_wp2_with fail
  generalize w.alloc (.cells #[.bool _,.int .u64 x,.slice p l q,.int .u64 y,.slice r s v] 32)=W0 at H0 ⊢
  obtain ⟨d0,d1,d2,d3,d4⟩:=H0.out.b1
  refine (HN.out _ H0.out.tab H0.out.i1).mono ?_
  rintro e w1 ⟨rfl,hB1⟩
  have H1:=hid (H0.out.next hB1)
  clear H0 hB1 d0 d1 d2 d3 d4
  obtain ⟨d0,d1,d2,d3,d4⟩:=H1.out.b1
  go_wp2_with fail
  refine (HW.out _ H1.out.j1).mono ?_
  rintro e w2 ⟨rfl,hB2⟩
  have H2:=hid (H1.out.next hB2)
  clear H1 hB2 d0 d1 d2 d3 d4
  obtain ⟨d0,d1,d2,d3,d4⟩:=H2.out.b1
  go_wp2
  go_ret
  exact ⟨by simp <;> (apply ByteArray.ext;simp),H2.out.bel⟩)
theorem O4 (t:Bool) (x y:Int) (p r:Option Addr) (l q s v n m k:Nat) (w:World) (hz:(m == 0)=false) (i1:ah w (.int .u64 x) (.slice p l q) n) (j1:ah w (.int .u64 y) (.slice r s v) m) (hk:k≤1073741824) (hn:n<B64 ^ k) (hm:m<B64 ^ k) (hT:dU w):Calls Tryz.prog 33 #[.agg #[.bool t,.int .u64 x,.slice p l q,.int .u64 y,.slice r s v]] w (gW w (((if t then [45] else []) ++ Lib.decDigits n) ++ (47 :: Lib.decDigits m))):=by
 have HN:=hid (fun (W:World) (h:dU W) (i:ah W (.int .u64 x) (.slice p l q) n)=>zS _ _ n k W i hk hn h)
 have HM:=hid (fun (W:World) (h:dU W) (i:ah W (.int .u64 y) (.slice r s v) m)=>zS _ _ m k W i hk hm h)
 have HW:=hid (fun (W:World) (i:ah W (.int .u64 y) (.slice r s v) m)=>hz ▸ zl (.bool t) (.int .u64 x) (.slice p l q) _ _ m W i)
 have hd:=sU n k hn hk
 have he:=sU m k hm hk
 obtain ⟨D,hD⟩:∃ D,Lib.decDigits n=D:=⟨_,rfl⟩
 obtain ⟨E,hE⟩:∃ E,Lib.decDigits m=E:=⟨_,rfl⟩
 rw [hD] at HN hd ⊢
 rw [hE] at HM he ⊢
 have H0:=hid (Q1T.start t (.int .u64 x) (.slice p l q) (.int .u64 y) (.slice r s v) n m 32 i1 j1 hT)
 clear hD hE hz i1 j1 hn hm hT
 cases t
 all_goals (
  go_enter Tryz.func33,Tryz.ntmps33
  go_wp2_with fail
  generalize w.alloc (.cells #[.bool _,.int .u64 x,.slice p l q,.int .u64 y,.slice r s v] 32)=W0 at H0 ⊢
  obtain ⟨d0,d1,d2,d3,d4⟩:=H0.out.b1
  refine (HN.out _ H0.out.tab H0.out.i1).mono ?_
  rintro e w1 ⟨rfl,hB1⟩
  have H1:=hid (H0.out.next hB1)
  clear H0 hB1 d0 d1 d2 d3 d4
  obtain ⟨d0,d1,d2,d3,d4⟩:=H1.out.b1
  go_wp2_with fail
  refine (HW.out _ H1.out.j1).mono ?_
  rintro e w2 ⟨rfl,hB2⟩
  have H2:=hid (H1.out.next hB2)
  clear H1 hB2 d0 d1 d2 d3 d4
  obtain ⟨d0,d1,d2,d3,d4⟩:=H2.out.b1
  go_wp2_with fail
  refine (HM.out _ H2.out.tab H2.out.j1).mono ?_
  rintro e w3 ⟨rfl,hB3⟩
  have H3:=hid (H2.out.next hB3)
  clear H2 hB3 d0 d1 d2 d3 d4
  go_wp2
  go_ret
  exact ⟨by simp <;> (apply ByteArray.ext;simp),H3.out.bel⟩)
theorem H8 (r:Rat) (v:Value) (k:Nat) (w:World) (h:IsQ w v r) (hk:k≤1073741824) (hf:Fits k r) (hT:dU w):Calls Tryz.prog 33 #[v] w (gW w (iR r)):=by
 obtain ⟨t,x,p,l,q,y,p',s,u,rfl,i,j,e⟩:=h.shape
 have e':=e.out
 subst e'
 unfold iR
 have hd:bM r<B64 ^ k:=Nat.lt_of_le_of_lt (by unfold bM;split <;> omega) hf.2
 rcases hc:(bM r == 0) with _ | _
 ·have h1:r.den≠1:=by intro h1;simp [bM,h1] at hc
  have h2:bM r=r.den:=by simp [bM,h1]
  rw [if_neg h1,← h2]
  have:=O4 (decide (r.num<0)) x y p p' l q s u _ _ k w hc i j hk hf.1 hd hT
  simpa using this
 ·have h1:r.den=1:=by
   have h3:bM r=0:=by simpa using hc
   unfold bM at h3
   split at h3
   ·assumption
   ·have:=r.den_pos
    omega
  rw [if_pos h1]
  have:=O5 (decide (r.num<0)) x y p p' l q s u _ _ k w hc i j hk hf.1 hd hT
  simpa using this
end
section
open Go.RowKit Go.Sort
def aN (x:UInt8):Bool:=decide (48≤x.toNat∧x.toNat≤57)
theorem EH (l:List UInt8) (w:World) (hs:l.length≤1099511627776):Calls Tryz.prog 63 #[.string ⟨l.toArray⟩] w fun e w'=>e=.returned (.bool (l != [] && l.all aN))∧w=w':=by
 obtain ⟨t,ht⟩:∃ t,(l != [] && l.all aN)=t:=⟨_,rfl⟩
 rw [ht]
 have HT:=hid ht
 clear ht
 go_enter Tryz.func63,Tryz.ntmps63
 go_wp2
 go_loop [6] (fun nv=>∃ n:Nat,nv=.int .i64 n∧n≤l.length∧(l.take n).all aN=true) (fun nv=>l.length - (intOf nv).toNat)
 case atStart=>exact ⟨0,rfl,Nat.zero_le _,rfl⟩
 case round =>
  obtain ⟨n,rfl,hn,hz⟩:=hrel
  have HZ:=hid hz
  clear hz
  by_cases h0:n=l.length
  ·have h1:Hid ((l != [])=t):=by
    show _=_
    have:=HZ.out
    rw [h0,List.take_length] at this
    rw [← HT.out,this,Bool.and_true]
   subst h0
   go_wp2
   go_ret
   refine ⟨?_,rfl⟩
   rw [← h1.out]
   show Ending.returned (.bool !l.isEmpty)=_
   cases l <;> rfl
  ·have hlt:n<l.length:=by omega
   obtain ⟨x,hx⟩:∃ x,l[n]=x:=⟨_,rfl⟩
   have hi:(⟨l.toArray⟩:ByteArray)[n]'(by simpa [ByteArray.size] using hlt)=x:=by rw [← hx];rfl
   have hi2:((⟨l.toArray⟩:ByteArray)[n]'(by simpa [ByteArray.size] using hlt)).toNat=x.toNat:=by rw [hi]
   have hm:x∈l:=hx ▸ List.getElem_mem hlt
   have hno:Hid (aN x=false→t=false):=by
    intro h
    have:l.all aN=false:=by rw [List.all_eq_false];exact ⟨x,hm,by simp [h]⟩
    rw [← HT.out,this,Bool.and_false]
   have hyes:Hid (aN x=true→(l.take (n+1)).all aN=true):=by
    intro h
    rw [List.take_succ_eq_append_getElem hlt,List.all_append,HZ.out,hx]
    simp [h]
   clear hi hm hx
   rcases Nat.lt_or_ge x.toNat 48 with h1 | h1
   ·have hd:aN x=false:=by unfold aN;simp;omega
    have HE:=hid (hno.out hd)
    clear hno hyes hd
    go_wp2
    go_ret
    rw [HE.out];exact ⟨rfl,rfl⟩
   ·rcases Nat.lt_or_ge 57 x.toNat with h2 | h2
    ·have hd:aN x=false:=by unfold aN;simp;omega
     have HE:=hid (hno.out hd)
     clear hno hyes hd
     go_wp2
     go_ret
     rw [HE.out];exact ⟨rfl,rfl⟩
    ·have hd:aN x=true:=by unfold aN;simp;omega
     have HY:=hid (hyes.out hd)
     clear hno hyes hd
     go_wp2
     go_round
     case rel=>exact ⟨n+1,by go_num,by omega,HY.out⟩
     case measure=>simp [intOf];omega
theorem UL (x:UInt8) (r:List UInt8):(x == 48 && r.isEmpty || (((x.toNat:Nat):Int) != 48))=(true && ((x :: r == [48]) || ((x :: r).head? != some 48))):=by
 by_cases h:x=48
 ·subst h
  cases r <;> simp
 ·have h1:x.toNat≠48:=fun e=>h (UInt8.toNat_inj.1 e)
  have h2:(((x.toNat:Nat):Int) != 48)=true:=by simp;omega
  rw [h2]
  simp [h]
def bY (l:List UInt8):Bool:=(l != [] && l.all aN) && (l == [48] || l.head? != some 48)
theorem vW (l:List UInt8) (w:World) (hs:l.length≤1099511627776):Calls Tryz.prog 62 #[.string ⟨l.toArray⟩] w fun e w'=>e=.returned (.bool (bY l))∧w=w':=by
 have hc:=EH l w hs
 obtain ⟨t,ht⟩:∃ t,(l != [] && l.all aN)=t:=⟨_,rfl⟩
 unfold bY
 rw [ht] at hc ⊢
 cases t
 ·go_enter Tryz.func62,Tryz.ntmps62
  go_wp2_with (go_at_call 63;refine hc.mono ?_;rintro e w' ⟨rfl,rfl⟩)
  go_ret
  exact ⟨rfl,rfl⟩
 ·obtain ⟨x,r,rfl⟩:∃ x r,l=x :: r:=by cases l with | nil=>simp at ht | cons x r=>exact ⟨x,r,rfl⟩
  clear ht
  go_enter Tryz.func62,Tryz.ntmps62
  go_wp2_with (go_at_call 63;refine hc.mono ?_;rintro e w' ⟨rfl,rfl⟩)
  ·go_ret
   refine ⟨?_,rfl⟩
   show Ending.returned (.bool (x == 48 && r.isEmpty || (((x.toNat:Nat):Int) != 48)))=_
   rw [UL]
  ·obtain ⟨rfl,rfl⟩:=h
   go_ret
   exact ⟨rfl,rfl⟩
  ·exfalso
   rename_i h1
   exact h ⟨Classical.byContradiction fun h2=>h1 (.inl h2),Classical.byContradiction fun h2=>h1 (.inr h2)⟩
end
section
open Go.RowKit Go.Sort
theorem oM (W:World) (n:Nat) (h:n<B64):ah W (.int .u64 (n:Int)) (.slice none 0 0) n:=.inl ⟨h,rfl,rfl⟩
theorem FV (n k:Nat) (w:World) (hn:10 ^ n<B64 ^ k) (hk:k≤17179869184):Calls Tryz.prog 65 #[.int .i64 (n:Int)] w (aW w (10 ^ n)):=by
 have HN:=hid (fun j (hj:j≤n)=>Nat.lt_of_le_of_lt (Nat.pow_le_pow_right (by decide) hj) hn)
 have hn20:n<20*k:=by
  have h1:B64 ^ k≤(10 ^ 20) ^ k:=Nat.pow_le_pow_left (by unfold B64;decide) k
  rw [← Nat.pow_mul] at h1
  exact (Nat.pow_lt_pow_iff_right (by decide:1<10)).1 (Nat.lt_of_lt_of_le hn h1)
 have hk1:1≤k:=by
  rcases k with _ | k
  ·have:0<10 ^ n:=Nat.pow_pos (by decide)
   simp at hn
  ·omega
 clear hn
 go_enter Tryz.func65,Tryz.ntmps65
 go_wp2_with fail
 have hS0:=hid ((((St.start w).alloc' (w.heap.size) (by simp) 28 [.int .u64 0,.slice none 0 0]).alloc' (w.heap.size+1) (by simp) 28 [.int .u64 1,.slice none 0 0]).alloc' (w.heap.size+1+1) (by simp) 28 [.int .u64 10,.slice none 0 0])
 obtain ⟨W0,hW0⟩:=cu hS0
 rw [hW0] at hS0 ⊢
 clear hW0
 go_wp2_with fail
 go_loopw [8] (fun iv wr=>∃ (j:Nat) (x1:Int) (p1:Option Addr) (l1 q1:Nat),iv=.int .i64 (j:Int)∧j≤n∧St w [⟨w.heap.size+1+1,28,[.int .u64 10,.slice none 0 0]⟩,⟨w.heap.size+1,28,[.int .u64 x1,.slice p1 l1 q1]⟩,⟨w.heap.size,28,[.int .u64 0,.slice none 0 0]⟩] [.m (.int .u64 x1) (.slice p1 l1 q1) (10 ^ j)] wr) (fun iv _=>n - (intOf iv).toNat)
 case atStart=>exact ⟨0,1,none,0,0,rfl,Nat.zero_le _,hS0.out.fact (.m (.int .u64 1) (.slice none 0 0) (10 ^ 0)) (oM _ 1 (by decide))⟩
 case round =>
  clear hS0
  obtain ⟨j,x1,p1,l1,q1,rfl,hj,hSt⟩:=hrel
  have HS:=hid hSt
  clear hSt
  by_cases hlt:j<n
  ·have hcj:(j:Int)<(n:Int):=by omega
   obtain ⟨⟨cP0,cP1⟩,fP0,fP1⟩:=HS.out.f2 1 (w.heap.size+1) 28 (.int .u64 x1) (.slice p1 l1 q1) rfl
   obtain ⟨⟨cT0,cT1⟩,fT0,fT1⟩:=HS.out.f2 0 (w.heap.size+1+1) 28 (.int .u64 10) (.slice none 0 0) rfl
   go_wp2_with fail
   clear cP0 cP1 fP0 fP1 cT0 cT1 fT0 fT1
   refine (EY (10 ^ j) 10 k _ _ _ _ _ (HS.out.get (f:=.m (.int .u64 x1) (.slice p1 l1 q1) (10 ^ j)) 0 rfl) (oM _ 10 (by decide)) (by omega) (HN.out _ hj) (Nat.lt_of_lt_of_le (by decide:10<B64 ^ 1) (Nat.pow_le_pow_right (by decide) hk1))).mono ?_
   rintro e w2 ⟨c2,d2,rfl,hm2,hB⟩
   have hS1:=hid (HS.out.call hB)
   clear hB
   clear HS
   obtain ⟨x2,p2,l2,q2,rfl,rfl⟩:=hm2.shape
   rw [← Nat.pow_succ] at hm2
   have hS2:=hid (hS1.out.fact (.m (.int .u64 x2) (.slice p2 l2 q2) (10 ^ (j+1))) hm2)
   clear hS1 hm2
   obtain ⟨⟨cP0,cP1⟩,fP0,fP1⟩:=hS2.out.f2 1 (w.heap.size+1) 28 (.int .u64 x1) (.slice p1 l1 q1) rfl
   go_wp2_with fail
   clear cP0 cP1 fP0 fP1
   have hJ:=hid ((((hS2.out).store (b:=⟨w.heap.size+1,28,[.int .u64 x1,.slice p1 l1 q1]⟩) 1 0 (.int .u64 x2) rfl rfl).store (b:=⟨w.heap.size+1,28,[.int .u64 x2,.slice p1 l1 q1]⟩) 1 1 (.slice p2 l2 q2) rfl rfl).as [⟨w.heap.size+1+1,28,[.int .u64 10,.slice none 0 0]⟩,⟨w.heap.size+1,28,[.int .u64 x2,.slice p2 l2 q2]⟩,⟨w.heap.size,28,[.int .u64 0,.slice none 0 0]⟩] rfl)
   go_roundw
   case rel=>exact ⟨j+1,x2,p2,l2,q2,by go_num,by omega,⟨hJ.out.bel,hJ.out.box,(hJ.out.get (f:=.m (.int .u64 x2) (.slice p2 l2 q2) (10 ^ (j+1))) 0 rfl),trivial⟩⟩
   case measure=>simp [intOf];omega
  ·obtain rfl:j=n:=by omega
   have hcj:¬ ((j:Int)<(j:Int)):=by omega
   clear hj
   obtain ⟨⟨cP0,cP1⟩,fP0,fP1⟩:=HS.out.f2 1 (w.heap.size+1) 28 (.int .u64 x1) (.slice p1 l1 q1) rfl
   obtain ⟨⟨cR0,cR1⟩,fR0,fR1⟩:=HS.out.f2 2 w.heap.size 28 (.int .u64 0) (.slice none 0 0) rfl
   have hS1:=hid ((((HS.out).store (b:=⟨w.heap.size,28,[.int .u64 0,.slice none 0 0]⟩) 2 0 (.int .u64 x1) rfl rfl).store (b:=⟨w.heap.size,28,[.int .u64 x1,.slice none 0 0]⟩) 2 1 (.slice p1 l1 q1) rfl rfl).as [⟨w.heap.size+1+1,28,[.int .u64 10,.slice none 0 0]⟩,⟨w.heap.size+1,28,[.int .u64 x1,.slice p1 l1 q1]⟩,⟨w.heap.size,28,[.int .u64 x1,.slice p1 l1 q1]⟩] rfl)
   go_wp2_with fail
   clear cP0 cP1 fP0 fP1 cR0 cR1 fR0 fR1
   obtain ⟨⟨zR0,zR1⟩,-⟩:=hS1.out.f2 2 w.heap.size 28 (.int .u64 x1) (.slice p1 l1 q1) rfl
   exact bodyPost_ret (v:=.agg #[.int .u64 x1,.slice p1 l1 q1]) (by simp [results,Tryz.results65,go_sem,zR0,zR1]) rfl ⟨_,_,rfl,(hS1.out.get (f:=.m (.int .u64 x1) (.slice p1 l1 q1) (10 ^ j)) 0 rfl),hS1.out.bel⟩
end
section
open Go.RowKit Go.Sort
attribute [local go_sem] takes gU gQ gK
def dv (l:List UInt8):Nat:=l.foldl (fun a x=>a*10+(x.toNat - 48)) 0
theorem Tf (l:List UInt8) (x:UInt8):dv (l ++ [x])=dv l*10+(x.toNat - 48):=by simp [dv]
theorem Uk (r:List UInt8):∀ a:Nat,r.foldl (fun a x=>a*10+(x.toNat - 48)) a=a*10 ^ r.length+dv r:=by
 unfold dv
 induction r with
 | nil=>intro a;simp
 | cons x r ih =>
  intro a
  rw [List.foldl_cons,ih,List.foldl_cons,ih (0*10+(x.toNat - 48)),List.length_cons,Nat.pow_succ]
  grind
theorem Ef (l r:List UInt8):dv (l ++ r)=dv l*10 ^ r.length+dv r:=by
 conv=>lhs;unfold dv
 rw [List.foldl_append]
 exact Uk r (dv l)
theorem ku (l:List UInt8) (h:l.all aN=true):dv l<10 ^ l.length:=by
 induction l with
 | nil=>decide
 | cons x l ih =>
  simp only [List.all_cons,Bool.and_eq_true] at h
  have h1:=ih h.2
  have h2:=h.1
  simp only [aN,decide_eq_true_eq] at h2
  have h3:dv (x :: l)=(x.toNat - 48)*10 ^ l.length+dv l:=by
   have:=Ef [x] l
   rw [List.singleton_append] at this
   rw [this]
   show (0*10+(x.toNat - 48))*_+_=_
   rw [Nat.zero_mul,Nat.zero_add]
  have h4:(x.toNat - 48)*10 ^ l.length≤9*10 ^ l.length:=Nat.mul_le_mul_right _ (by omega)
  rw [h3,List.length_cons,Nat.pow_succ]
  omega
theorem Ju (r:List UInt8) (j:Nat) (hj:j<r.length) (h:r.all aN=true):dv (r.take (j+1))=dv (r.take j)*10+(r[j].toNat - 48)∧48≤r[j].toNat∧r[j].toNat≤57∧dv (r.take j)<10 ^ j:=by
 rw [List.take_succ_eq_append_getElem hj,Tf]
 have h1:=List.all_eq_true.1 h _ (List.getElem_mem hj)
 simp only [aN,decide_eq_true_eq] at h1
 refine ⟨rfl,h1.1,h1.2,?_⟩
 have:=ku (r.take j) (by rw [List.all_eq_true];intro y hy;exact List.all_eq_true.1 h y (List.mem_of_mem_take hy))
 rwa [List.length_take,Nat.min_eq_left (by omega)] at this
theorem iJ {m K:Nat} (h:m<K):10 ^ m<B64 ^ K:=
 Nat.lt_of_lt_of_le (Nat.pow_lt_pow_right (by decide) h) (Nat.pow_le_pow_left (by unfold B64;decide) K)
theorem PN {r:List UInt8} (h:r.all aN=true) (n:Nat):(r.take n).all aN=true:=by
 rw [List.all_eq_true];intro y hy;exact List.all_eq_true.1 h y (List.mem_of_mem_take hy)
theorem extract_drop (r:List UInt8) (j:Nat):(⟨r.toArray⟩:ByteArray).extract j r.length=⟨(r.drop j).toArray⟩:=by
 apply ByteArray.ext
 rw [ByteArray.data_extract]
 simp [List.take_of_length_le]
def strLen:Value→Nat
 | .string s=>s.size
 | _=>0
theorem wH (l:List UInt8) (w:World) (hd:l.all aN=true) (hl:l.length≤1000000):Calls Tryz.prog 64 #[.string ⟨l.toArray⟩] w (aW w (dv l)):=by
 have HD:=hid hd
 clear hd
 go_enter Tryz.func64,Tryz.ntmps64
 go_wp2_with fail
 have hS0:=hid (((St.start w).alloc' (w.heap.size) (by simp) 28 [.int .u64 0,.slice none 0 0]).alloc' (w.heap.size+1) (by simp) 28 [.int .u64 0,.slice none 0 0])
 obtain ⟨W0,hW0⟩:=cu hS0
 rw [hW0] at hS0 ⊢
 clear hW0
 go_wp2_with fail
 go_loopw [0] (fun sv wr=>∃ (t r:List UInt8) (x1:Int) (p1:Option Addr) (l1 q1:Nat),sv=.string ⟨r.toArray⟩∧l=t ++ r∧St w [⟨w.heap.size+1,28,[.int .u64 x1,.slice p1 l1 q1]⟩,⟨w.heap.size,28,[.int .u64 0,.slice none 0 0]⟩] [.m (.int .u64 x1) (.slice p1 l1 q1) (dv t)] wr) (fun sv _=>strLen sv)
 case atStart=>exact ⟨[],l,0,none,0,0,rfl,rfl,hS0.out.fact (.m (.int .u64 0) (.slice none 0 0) (dv [])) (oM _ 0 (by decide))⟩
 case round =>
  clear hS0
  obtain ⟨t,r,x1,p1,l1,q1,rfl,htr,hSt⟩:=hrel
  have HS:=hid hSt
  have HTR:=hid htr
  clear hSt
  have hrl:r.length≤1000000:=by rw [htr,List.length_append] at hl;omega
  have HDr:=hid (show r.all aN=true by have:=HD.out;rw [htr,List.all_append,Bool.and_eq_true] at this;exact this.2)
  clear htr
  by_cases hlt:0<r.length
  ·go_wp2_with fail
   obtain ⟨n,hn,hn19,hnr,hn1⟩:∃ n:Nat,min (19:Int) (r.length:Int)=(n:Int)∧n≤19∧n≤r.length∧1≤n:=⟨min 19 r.length,by omega,by omega,by omega,by omega⟩
   rw [hn]
   clear hn
   go_loop [5,14] (fun pv iv=>∃ j:Nat,iv=.int .i64 (j:Int)∧j≤n∧pv=.int .u64 ((dv (r.take j):Nat):Int)) (fun _ iv=>n - (intOf iv).toNat)
   case atStart=>exact ⟨0,rfl,Nat.zero_le _,rfl⟩
   case round =>
    obtain ⟨j,rfl,hj,rfl⟩:=hrel
    by_cases hlt2:j<n
    ·have hjr:j<r.length:=by omega
     have ht:=Ju r j hjr HDr.out
     obtain ⟨V,hV⟩:∃ V,dv (r.take j)=V:=⟨_,rfl⟩
     obtain ⟨x,hx⟩:∃ x,r[j]=x:=⟨_,rfl⟩
     have hp:(10:Nat) ^ j≤10 ^ 18:=Nat.pow_le_pow_right (by decide) (by omega)
     have hi2:((⟨r.toArray⟩:ByteArray)[j]'(by simpa [ByteArray.size] using hjr)).toNat=x.toNat:=by rw [← hx];rfl
     rw [hV,hx] at ht
     obtain ⟨ht1,ht2,ht3,ht4⟩:=ht
     have hV18:V<1000000000000000000:=by omega
     have HT1:=hid ht1
     rw [hV]
     clear ht1 ht4 hp hx hV
     obtain ⟨X,hX⟩:∃ X,x.toNat=X:=⟨_,rfl⟩
     rw [hX] at hi2 ht2 ht3 HT1
     clear hX
     have hcj:(j:Int)<(n:Int):=by omega
     go_wp2_with fail
     exact ⟨⟨j+1,by simp,by omega,by rw [HT1.out];congr 1;omega⟩,by simp [intOf];omega⟩
    ·obtain rfl:j=n:=by omega
     have hcj:¬ ((j:Int)<(j:Int)):=by omega
     obtain ⟨KK,hKK⟩:∃ KK,KK=1000020:=⟨_,rfl⟩
     have hKKb:KK≤17179869184:=by omega
     have hjl:t.length+r.length≤1000000:=by have:=congrArg List.length HTR.out;rw [List.length_append] at this;omega
     have hb1:dv t<10 ^ t.length:=ku t (by have:=HD.out;rw [HTR.out,List.all_append,Bool.and_eq_true] at this;exact this.1)
     have hb2:dv (r.take j)<10 ^ j:=by have:=ku (r.take j) (PN HDr.out j);rwa [List.length_take,Nat.min_eq_left hnr] at this
     have HK1:=hid (Nat.lt_trans hb1 (iJ (K:=KK) (by omega)))
     have HK2:=hid (iJ (m:=j) (K:=KK) (by omega))
     have HK3:=hid (show dv t*10 ^ j<B64 ^ KK by have h1:=iJ (m:=t.length+j) (K:=KK) (by omega);rw [Nat.pow_add] at h1;exact Nat.lt_of_le_of_lt (Nat.mul_le_mul_right _ (Nat.le_of_lt hb1)) h1)
     have HV:=hid (show dv (r.take j)<B64 by have h1:(10:Nat) ^ j≤10 ^ 19:=Nat.pow_le_pow_right (by decide) hn19;exact Nat.lt_of_lt_of_le (Nat.lt_of_lt_of_le hb2 h1) (by decide))
     have HTT:=hid (show dv t*10 ^ j+dv (r.take j)=dv (t ++ r.take j) by rw [Ef,List.length_take,Nat.min_eq_left hnr])
     have HVK:=hid (show dv (r.take j)<B64 ^ KK from Nat.lt_trans hb2 (iJ (by omega)))
     clear hb1 hb2 hKK
     obtain ⟨V,hV⟩:∃ V,dv (r.take j)=V:=⟨_,rfl⟩
     rw [hV] at HV HVK HTT ⊢
     clear hV
     go_wp2_with fail
     have LM0:=hid (fun (W:World) (h:Below wr.heap.size wr W)=>((HS.out.call h).f2 0 (w.heap.size+1) 28 (.int .u64 x1) (.slice p1 l1 q1) rfl).1)
     refine jA 7 [⟨[],[0]⟩,⟨[],[1]⟩,⟨[1],[2]⟩,⟨[0,2],[3]⟩,⟨[],[4]⟩,⟨[4],[5]⟩,⟨[3,5],[6]⟩]
      [oE (.agg #[.int .u64 x1,.slice p1 l1 q1]),oE (.int .i64 (j:Int)),one (dW (10 ^ j)),one (dW (dv t*10 ^ j)),oE (.int .u64 (V:Int)),oE (.agg #[.int .u64 (V:Int),.slice none 0 0]),one (dW (dv t*10 ^ j+V))]
      (fun _ W=>Below wr.heap.size wr W) (by kernel_rfl) (by kernel_rfl) ?hTW1 ?hZW1 ?hOW1 ?hEW1
     case hZW1=>exact (Below.refl _ _).drew
     case hTW1 =>
      simp only [List.forall_mem_cons,List.not_mem_nil,false_imp_iff,implies_true,and_true]
      exact ⟨bE,bE,aS oO,aS oO,bE,bE,aS oO⟩
     case hOW1 =>
      intro u
      simp only [List.take_succ_cons,List.take_zero,aJ]
      repeat' (first | with_reducible exact gZ | with_reducible refine gY ?_ ?_)
      ·intro W hS hF K hK
       have hcS:=LM0.out W hS
       go_simp
       exact hK _ _ (.refl _ _) hS rfl
      ·intro W hS hF K hK
       go_simp
       exact hK _ _ (.refl _ _) hS rfl
      ·intro W hS hF K hK
       have h1:u 1=.int .i64 (j:Int):=hF.1
       clear hF
       go_simp
       refine (FV j KK _ HK2.out (by omega)).mono ?_
       rintro e wA ⟨c,d,rfl,hm,hBA⟩
       obtain ⟨xx,pp,ll,qq,rfl,rfl⟩:=hm.shape
       exact ⟨_,rfl,hK _ _ hBA (hS.trans (hBA.mono hS.size)) ⟨_,_,_,_,rfl,hm⟩⟩
      ·intro W hS hF K hK
       have h0:u 0=.agg #[.int .u64 x1,.slice p1 l1 q1]:=hF.1
       obtain ⟨x2,p2,l2,q2,h2,m2⟩:dW (10 ^ j) (u 2) W:=hF.2.1
       have sH:=hid (HS.out.call hS)
       clear hF
       go_simp
       refine (EY (dv t) (10 ^ j) KK _ _ _ _ _ (sH.out.get (f:=.m (.int .u64 x1) (.slice p1 l1 q1) (dv t)) 0 rfl) m2 (by omega) HK1.out HK2.out).mono ?_
       rintro e wA ⟨c,d,rfl,hm,hBA⟩
       obtain ⟨xx,pp,ll,qq,rfl,rfl⟩:=hm.shape
       exact ⟨_,rfl,hK _ _ hBA (hS.trans (hBA.mono hS.size)) ⟨_,_,_,_,rfl,hm⟩⟩
      ·intro W hS hF K hK
       go_simp
       exact hK _ _ (.refl _ _) hS rfl
      ·intro W hS hF K hK
       have h4:u 4=.int .u64 (V:Int):=hF.1
       clear hF
       go_simp
       exact hK _ _ (.refl _ _) hS rfl
      ·intro W hS hF K hK
       obtain ⟨x3,p3,l3,q3,h3,m3⟩:dW (dv t*10 ^ j) (u 3) W:=hF.1
       have h5:u 5=.agg #[.int .u64 (V:Int),.slice none 0 0]:=hF.2.1
       clear hF
       go_simp
       refine (EX (dv t*10 ^ j) V KK _ _ _ _ _ m3 (oM _ V HV.out) (by omega) HK3.out HVK.out).mono ?_
       rintro e wA ⟨c,d,rfl,hm,hBA⟩
       obtain ⟨xx,pp,ll,qq,rfl,rfl⟩:=hm.shape
       exact ⟨_,rfl,hK _ _ hBA (hS.trans (hBA.mono hS.size)) ⟨_,_,_,_,rfl,hm⟩⟩
     case hEW1 =>
      intro u W1 hS hF
      have hS1:=hid (HS.out.call hS)
      obtain ⟨x6,p6,l6,q6,e6,m6⟩:dW (dv t*10 ^ j+V) (u 6) W1:=hF.2.2.2.2.2.2.1
      clear hF hS
      rw [HTT.out] at m6
      have hS2:=hid (hS1.out.fact (.m (.int .u64 x6) (.slice p6 l6 q6) (dv (t ++ r.take j))) m6)
      clear hS1 m6
      obtain ⟨⟨cS0,cS1⟩,fS0,fS1⟩:=hS2.out.f2 0 (w.heap.size+1) 28 (.int .u64 x1) (.slice p1 l1 q1) rfl
      simp only [List.take_succ_cons,List.take_zero,aJ,List.drop_succ_cons,List.drop_zero]
      go_wp2_with fail
      clear cS0 cS1 fS0 fS1
      have hJ:=hid ((((hS2.out).store (b:=⟨w.heap.size+1,28,[.int .u64 x1,.slice p1 l1 q1]⟩) 0 0 (.int .u64 x6) rfl rfl).store (b:=⟨w.heap.size+1,28,[.int .u64 x6,.slice p1 l1 q1]⟩) 0 1 (.slice p6 l6 q6) rfl rfl).as [⟨w.heap.size+1,28,[.int .u64 x6,.slice p6 l6 q6]⟩,⟨w.heap.size,28,[.int .u64 0,.slice none 0 0]⟩] rfl)
      rw [extract_drop]
      exact ⟨⟨t ++ r.take j,r.drop j,x6,p6,l6,q6,rfl,by rw [List.append_assoc,List.take_append_drop];exact HTR.out,⟨hJ.out.bel,hJ.out.box,(hJ.out.get (f:=.m (.int .u64 x6) (.slice p6 l6 q6) (dv (t ++ r.take j))) 0 rfl),trivial⟩⟩,by simp only [strLen,ByteArray.size,List.size_toArray,List.length_drop];omega⟩
  ·have h0:r=[]:=List.length_eq_zero_iff.1 (by omega)
   subst h0
   have hlt0:t=l:=by have:=HTR.out;rw [List.append_nil] at this;exact this.symm
   rw [hlt0] at HS
   clear hlt0 HTR HDr hlt hrl
   obtain ⟨⟨cS0,cS1⟩,fS0,fS1⟩:=HS.out.f2 0 (w.heap.size+1) 28 (.int .u64 x1) (.slice p1 l1 q1) rfl
   obtain ⟨⟨cR0,cR1⟩,fR0,fR1⟩:=HS.out.f2 1 w.heap.size 28 (.int .u64 0) (.slice none 0 0) rfl
   have hS1:=hid ((((HS.out).store (b:=⟨w.heap.size,28,[.int .u64 0,.slice none 0 0]⟩) 1 0 (.int .u64 x1) rfl rfl).store (b:=⟨w.heap.size,28,[.int .u64 x1,.slice none 0 0]⟩) 1 1 (.slice p1 l1 q1) rfl rfl).as [⟨w.heap.size+1,28,[.int .u64 x1,.slice p1 l1 q1]⟩,⟨w.heap.size,28,[.int .u64 x1,.slice p1 l1 q1]⟩] rfl)
   go_wp2_with fail
   clear cS0 cS1 fS0 fS1 cR0 cR1 fR0 fR1
   obtain ⟨⟨zR0,zR1⟩,-⟩:=hS1.out.f2 1 w.heap.size 28 (.int .u64 x1) (.slice p1 l1 q1) rfl
   exact bodyPost_ret (v:=.agg #[.int .u64 x1,.slice p1 l1 q1]) (by simp [results,Tryz.results64,go_sem,zR0,zR1]) rfl ⟨_,_,rfl,(hS1.out.get (f:=.m (.int .u64 x1) (.slice p1 l1 q1) (dv l)) 0 rfl),hS1.out.bel⟩
end
section
open Go.RowKit Go.Sort
def nM (w:World):Prop:=1<w.heap.size∧∃ m:Int,w.cell? ⟨1,0,none⟩=some (.int .i64 m)
theorem nM.below {B:Nat} {w w':World} (h:nM w) (hb:Below B w w') (hB:w.heap.size≤B):nM w':=by
 obtain ⟨h1,m,h2⟩:=h
 exact ⟨Nat.lt_of_lt_of_le h1 hb.size,m,(hb.cell (p:=⟨1,0,none⟩) (Nat.lt_of_lt_of_le h1 hB)).trans h2⟩
structure Env (w:World):Prop where
 tz:Tab w
 ten:dU w
 max:nM w
theorem Env.below {B:Nat} {w w':World} (h:Env w) (hb:Below B w w') (hB:w.heap.size≤B):Env w':=⟨h.tz.below hb hB,h.ten.below hb hB,h.max.below hb hB⟩
theorem D8 (l:List UInt8) (w:World):Calls Tryz.prog 60 #[.string ⟨l.toArray⟩,.string ⟨#[45]⟩] w
  fun e w'=>e=.returned (.tuple #[.string ⟨(Lib.trimPrefix l [45]).toArray⟩,.bool (Lib.hasPrefix l [45])])∧Below w.heap.size w w':=by
 refine (Tryz.strings_CutPrefix ⟨l.toArray⟩ ⟨#[45]⟩ w).mono ?_
 rintro e w' ⟨rfl,rfl⟩
 exact ⟨by simp,Below.refl _ _⟩
theorem yE (l:List UInt8) (c:UInt8) (w:World) (hl:l.length≤1000000) (hM:nM w):Calls Tryz.prog 61 #[.string ⟨l.toArray⟩,.string ⟨#[c]⟩] w
  fun e w'=>e=.returned (.tuple #[.string ⟨(Lib.cut l [c]).1.toArray⟩,.string ⟨(Lib.cut l [c]).2.1.toArray⟩,.bool (Lib.cut l [c]).2.2])∧Below w.heap.size w w':=by
 obtain ⟨-,m,hm⟩:=hM
 refine (Tryz.strings_Cut ⟨l.toArray⟩ ⟨#[c]⟩ m w (by simp [ByteArray.size];omega) hm).mono ?_
 rintro e w' ⟨rfl,n,rfl⟩
 exact ⟨by simp,below_drewN _ _⟩
end
section
open Go.ChangeShapes Go.WideShapes Go.ChangeAt Go.RowKit Go.Joins
def vZ:List (String×DataW Unit):=[("math/bits.deBruijn32tab",Rows.laid_math_bits_deBruijn32tab),("math/bits.deBruijn64tab",Rows.laid_math_bits_deBruijn64tab),("internal/strconv.uint64pow10",Rows.laid_internal_strconv_uint64pow10)]
theorem Xo:ownKnob Tryz.prog.godebug=none:=by kernel_rfl
theorem cell_lt {W:World} {b o:Nat} {v:Value} (h:W.cell? ⟨b,o,none⟩=some v):b<W.heap.size:=by
 rcases Nat.lt_or_ge b W.heap.size with hlt | hge
 ·exact hlt
 ·unfold World.cell? at h;simp only [Array.getElem?_eq_none hge] at h;cases h
theorem TK {W:World} (hL:laidMetH Tryz.prog vZ W) (hS:W.ShapedOpen Tryz.prog):Env W:=by
 rw [MakeChecks.laidMetH_plain _ _ _ (by kernel_rfl)] at hL
 have t64:Lib.TabIs Tryz.prog W "math/bits.deBruijn64tab" .u8 (Lib.deBruijn64tab.map fun (n:Nat)=>(n:Int)):=
  Lib.tabIs_of_head (g:=0) (t:=151) (e:=5) (n:=64) (by kernel_rfl) (by kernel_rfl) Tryz.underlying151 Tryz.underlying5 (by kernel_rfl) (by kernel_rfl) (show laidMet Tryz.prog ((_,Lib.tabData .u8 _) :: _) W from Go.laidMet.tail hL)
 have t10:Lib.TabIs Tryz.prog W "internal/strconv.uint64pow10" .u64 Lib.pow10Tab:=
  Lib.tabIs_of_head (g:=4) (t:=177) (e:=24) (n:=20) (by kernel_rfl) (by kernel_rfl) Tryz.underlying177 Tryz.underlying24 (by kernel_rfl) (by kernel_rfl) (show laidMet Tryz.prog ((_,Lib.tabData .u64 _) :: _) W from Go.laidMet.tail (Go.laidMet.tail hL))
 have c64:TabAt 0 Lib.deBruijn64tab W:=fun j hj=>by
  have:=t64.cell (g:=0) (by kernel_rfl) j (by simpa using hj)
  rw [this]
  simp [List.getD,hj]
 have c10:=t10.cell (g:=4) (by kernel_rfl) 0 (by decide)
 obtain ⟨m,hm⟩:=cell_of_shapedOpen_int (g:=1) (t:=3) (zero:=#[.int .i64 0]) (k:=.i64) hS (of_decide_eq_true (by kernel_rfl)) (by kernel_rfl) rfl (by kernel_rfl) (by kernel_rfl) Tryz.underlying3
 exact ⟨⟨cell_lt (c64 0 (by decide)),c64⟩,⟨cell_lt c10,t10⟩,⟨cell_lt hm,m,hm⟩⟩
section
variable {H:Type} {enc:TypeId×Value→H}
theorem UA {C:Checked} {os:Os} {f:FuncId} {fn:Func} {s:ChangeSpec} {X:World→Prop} (hX:∀ w w':World,w.heap=w'.heap→X w→X w')
  (own:ownKnob C.prog.godebug=none) (started:os.Started) (noInit:C.prog.inits.idxOf? f=none) (hfn:C.prog.funcs[f]? = some fn)
  (witness:∃ (w:World) (tape:Tape) (i:Input),w.os=os∧(w.forCall tape i).Shaped C.prog∧i.vars=[]∧Input.okWide C.prog (w.forCall tape i) .any w.heap.size f i ∧
   ((s.pre enc C.prog fn [] false (w.forCall tape i).memory i.args∧X (w.forCall tape i).memory)∧sizedMet enc C.prog fn (OpenSpec.ofChange s) false (w.forCall tape i).memory i.args)∧({}:Assume).holds C.prog (lone (Frame.enter C.prog f i.args .normal) [] (w.forCall tape i)))
  (contract:∀ (W:World) (base:Nat) (args:Array Value) (ds gs:List (DataW H)) (before:List MemPlace),
   (∀ (j:Nat) t v,fn.params[j]? = some t→args[j]? = some v→Value.okWide C.prog W .any base t v) →
   DataW.Whole enc C.prog fn.params.toList s.vars false W args.toList ds gs before→W.ShapedOpen C.prog→X W →
   Calls C.prog f args W fun e W'=>∃ v,e=.returned v∧s.post enc C.prog fn false true false false W args v W') :
  ReturnsInHanded {} C os f .any (fun w args=>(s.pre enc C.prog fn [] false w args∧X w)∧sizedMet enc C.prog fn (OpenSpec.ofChange s) false w args) (s.post enc C.prog fn false true false false):=by
 refine returnsInHanded_of_calls own started noInit witness ?_
 intro w tape i _ hsh _ hok hpre _
 obtain ⟨_,_,_,fn',hfn',_,_,_,_,hval⟩:=hok
 have e:fn' = fn:=Option.some.inj (hfn'.symm.trans hfn)
 subst e
 obtain ⟨⟨⟨ds,gs,before,hw,hc⟩,hx⟩,hz⟩:=hpre
 have hw':=DataW.Whole.of_heap (w':=w.forCall tape i) (by rfl) hw
 refine (contract (w.forCall tape i) w.heap.size i.args ds gs before hval hw' hsh (hX _ _ (by rfl) hx)).mono fun e W' ⟨v,he,hp⟩=>?_
 subst he
 exact ChangeSpec.post_blind hp
theorem yZ {n:Int} (h:(Lit.int .i64 n).wf=true):-9223372036854775808≤n∧n≤9223372036854775807:=by simpa [Lit.wf,IntKind.min,IntKind.max,IntKind.signed,IntKind.bits] using h
theorem Z9 {n:Int} (h:(Lit.int .u8 n).wf=true):0≤n∧n≤255:=by simpa [Lit.wf,IntKind.min,IntKind.max,IntKind.signed,IntKind.bits] using h
structure NumIn (n d:Int) (b:Nat):Prop where
 wn:(Lit.int .i64 n).wf=true
 wd:(Lit.int .i64 d).wf=true
 wb:(Lit.int .u8 (b:Int)).wf=true
theorem NumIn.n1 {n d:Int} {b:Nat} (h:NumIn n d b):-9223372036854775808≤n:=(yZ h.wn).1
theorem NumIn.n2 {n d:Int} {b:Nat} (h:NumIn n d b):n≤9223372036854775807:=(yZ h.wn).2
theorem NumIn.d1 {n d:Int} {b:Nat} (h:NumIn n d b):-9223372036854775808≤d:=(yZ h.wd).1
theorem NumIn.d2 {n d:Int} {b:Nat} (h:NumIn n d b):d≤9223372036854775807:=(yZ h.wd).2
theorem NumIn.b1 {n d:Int} {b:Nat} (h:NumIn n d b):b<256:=by have:=(Z9 h.wb).2;omega
end
end
namespace Kp
open Go.RowKit
variable {P:Program} {ops:Array Oper}
def Kept (sp:List Spec) (gs:List (List Value→World→Prop)) (u:Nat→Value) (i:Nat) (W W':World):Prop:=
 Below W.heap.size W W'∨∀ k,k≠i→gu sp gs k u W→gu sp gs k u W'
def owes (sp:List Spec) (gs:List (List Value→World→Prop)) (S:(Nat→Value)→World→Prop) (s:Spec) (g:List Value→World→Prop) (u:Nat→Value) (i:Nat) (W:World) (v:Value) (W':World):Prop:=
 Kept sp gs u i W W'∧S (upd u i v) W'∧g (s.supp.map (upd u i v)) W'
def nU (P:Program) (ops:Array Oper) (S:(Nat→Value)→World→Prop) (sp:List Spec) (gs:List (List Value→World→Prop)) (u:Nat→Value) (a:Act) (i:Nat) (o:Oper) (s:Spec) (g:List Value→World→Prop):Prop:=
 ∀ W,S u W→jl sp gs u W s.deps→if Region.wanted o (yielded ops a.tmps) then takes P o a W (owes sp gs S s g u i W) else owes sp gs S s g u i W undef W
def bU (P:Program) (ops:Array Oper) (S:(Nat→Value)→World→Prop) (sp0:List Spec) (gs0:List (List Value→World→Prop)) (u:Nat→Value) (a:Act):Nat→List Oper→List Spec→List (List Value→World→Prop)→Prop
 | i,o :: l,s :: sp,g :: gs=>nU P ops S sp0 gs0 u a i o s g∧bU P ops S sp0 gs0 u a (i+1) l sp gs
 | _,[],_,_=>True
 | _,_,_,_=>False
theorem gY {S:(Nat→Value)→World→Prop} {sp0:List Spec} {gs0:List (List Value→World→Prop)} {u:Nat→Value} {a:Act} {i:Nat} {o:Oper} {l:List Oper} {s:Spec} {sp:List Spec} {g:List Value→World→Prop} {gs:List (List Value→World→Prop)}
  (h:∀ W,S u W→jl sp0 gs0 u W s.deps→∀ K:Value→World→Prop,(∀ v W',Kept sp0 gs0 u i W W'→S (upd u i v) W'→g (s.supp.map (upd u i v)) W'→K v W')→if Region.wanted o (yielded ops a.tmps) then takes P o a W K else K undef W)
  (hr:bU P ops S sp0 gs0 u a (i+1) l sp gs):bU P ops S sp0 gs0 u a i (o :: l) (s :: sp) (g :: gs):=
 ⟨fun W hS hF=>h W hS hF _ (fun _ _ h1 h2 h3=>⟨h1,h2,h3⟩),hr⟩
theorem gZ {S:(Nat→Value)→World→Prop} {sp0:List Spec} {gs0:List (List Value→World→Prop)} {u:Nat→Value} {a:Act} {i:Nat} {sp:List Spec} {gs:List (List Value→World→Prop)}:bU P ops S sp0 gs0 u a i [] sp gs:=by
 cases sp <;> cases gs <;> trivial
theorem nV {S:(Nat→Value)→World→Prop} {sp0:List Spec} {gs0:List (List Value→World→Prop)} {u:Nat→Value} {a:Act}:∀ {l:List Oper} {sp:List Spec} {gs:List (List Value→World→Prop)} {k:Nat} (i:Nat) {o:Oper},
  bU P ops S sp0 gs0 u a k l sp gs→l[i]? = some o→∃ s g,sp[i]? = some s∧gs[i]? = some g∧nU P ops S sp0 gs0 u a (k+i) o s g
 | [],_,_,_,_,_,_,h=>by simp at h
 | x :: l,[],_,_,_,_,h,_=>by simp [bU] at h
 | x :: l,s :: sp,[],_,_,_,h,_=>by simp [bU] at h
 | x :: l,s :: sp,g :: gs,k,0,o,h,hi=>by
  simp only [List.getElem?_cons_zero,Option.some.injEq] at hi
  subst hi
  exact ⟨s,g,rfl,rfl,h.1⟩
 | x :: l,s :: sp,g :: gs,k,i+1,o,h,hi=>by
  simp only [List.getElem?_cons_succ] at hi ⊢
  have:=nV i h.2 hi
  rwa [show k+1+i=k+(i+1) by omega] at this
section main
variable {l:List Oper} {n:Nat} {sp:List Spec} {gs:List (List Value→World→Prop)} {S:(Nat→Value)→World→Prop}
theorem y8 {Q:Exit→Act→World→Prop} {a0:Act} (hB:kJ l n sp=true) (hT:∀ g∈gs,∀ vs W W',Below W.heap.size W W'→g vs W→g vs W')
  (hO:∀ u,bU P l.toArray S sp gs u (aJ u 0 (l.take n) a0) 0 (l.take n) sp gs)
  (hE:∀ u W,S u W→(∀ k,k<n→gu sp gs k u W)→wpList P l.toArray Q (l.drop n) (aJ u 0 (l.take n) a0) W) :
  ∀ (f:Nat) (listed:Array Bool) (u:Nat→Value) (W:World),HeadInv .any l.toArray n listed→S u W →
   (∀ k,k<n→listed.getD k true=true→gu sp gs k u W)→left listed n=f →
   wpAny P .any l.toArray Q (f+(l.length - n)) listed (aJ u 0 (l.take n) a0) W:=by
 simp only [kJ,Bool.and_eq_true,decide_eq_true_eq] at hB
 obtain ⟨⟨⟨⟨⟨hn,hsp⟩,hd⟩,hops⟩,htail⟩,hseq⟩:=hB
 have hat:∀ i,i<n→∃ o s,l[i]? = some o∧sp[i]? = some s∧(∀ e∈o.after,Region.binds .any e=true→e.on<i)∧(∀ k∈s.deps,k<n∧waits o k=true) ∧
   (∀ t∈s.supp,t=i∨waits o t=true):=fun i hi=>by
  have h1:=List.all_eq_true.1 hops i (List.mem_range.2 hi)
  split at h1
  ·rename_i o s ho hs
   simp only [Bool.and_eq_true,List.all_eq_true,decide_eq_true_eq,Bool.or_eq_true] at h1
   refine ⟨o,s,ho,hs,fun e he hb=>?_,fun k hk=>h1.1.2 k hk,fun t ht=>h1.2 t ht⟩
   rcases h1.1.1 e (by simpa using he) with h2 | h2
   ·simp [hb] at h2
   ·exact h2
  ·cases h1
 intro f
 induction f with
 | zero =>
  intro listed u W inv hS hF hl
  have hall:=uh hl
  have hcan:listed=Array.replicate n true ++ Array.replicate (l.length - n) false:=by
   apply Array.ext
   ·rw [inv.size];simp;omega
   ·intro i h1 h2
    rcases Nat.lt_or_ge i n with h | h
    ·have:=hall i h
     rw [Array.getElem_append_left (by simpa using h)]
     simpa [h1] using this
    ·have:=inv.tail i h (by have:=inv.size;omega)
     rw [Array.getElem_append_right (by simpa using h)]
     simpa [h1] using this
  rw [Nat.zero_add,← List.length_drop]
  refine wpAny_of_seq (l.drop n) n listed _ W (fun j=>by simp) ?_ (hE u W hS fun k hk=>hF k hk (hall k hk))
  rw [hcan,List.length_drop]
  exact hseq
 | succ f ih =>
  intro listed u W inv hS hF hl
  obtain ⟨i0,hi0,hu0,hm0⟩:=wu (listed:=listed) (n:=n) (by omega)
  have hready0:i0∈Region.ready .any l.toArray listed:=by
   obtain ⟨o,s,ho,_,hlex,_⟩:=hat i0 hi0
   refine mem_ready.2 ⟨hu0,o,by simpa using ho,fun e he hb=>?_⟩
   have h1:=hm0 e.on (hlex e he hb)
   have hlt:e.on<listed.size:=by rw [inv.size];have:=hlex e he hb;simp;omega
   simpa [hlt] using h1
  have hlow:∀ i∈Region.ready .any l.toArray listed,i<n:=fun i hi=>by
   rcases Nat.lt_or_ge i n with h | h
   ·exact h
   ·simp only [Bool.or_eq_true,decide_eq_true_eq,Bool.and_eq_true] at htail
    rcases htail with h2 | h2
    ·obtain ⟨_,o,ho,_⟩:=mem_ready.1 hi
     have:=(Array.getElem?_eq_some_iff.1 ho).1
     simp at this
     omega
    ·have hnn:n<l.toArray.size:=by
      obtain ⟨_,o,ho,_⟩:=mem_ready.1 hi
      have:=(Array.getElem?_eq_some_iff.1 ho).1
      omega
     exact absurd hi (tail_waits h2.1 h2.2 hnn inv _ i0 rfl hi0 hu0 i h)
  rw [show f+1+(l.length - n)=(f+(l.length - n))+1 by omega]
  refine ⟨fun h0=>(by rw [h0] at hready0;cases hready0),fun i hi=>?_⟩
  have hin:=hlow i hi
  obtain ⟨hun,o',ho',hdone⟩:=mem_ready.1 hi
  obtain ⟨o,s,ho,hs,hlex,hdeps,hsupp⟩:=hat i hin
  have hoo:o' = o:=by
   have:l.toArray[i]? = some o:=by simpa using ho
   exact Option.some.inj (ho'.symm.trans this)
  subst hoo
  have hot:(l.take n)[i]? = some o':=by rw [List.getElem?_take_of_lt hin];exact ho
  obtain ⟨s',g,hs',hg,hdebt⟩:=nV i (hO u) hot
  have hss:s' = s:=Option.some.inj (hs'.symm.trans hs)
  subst hss
  have hisz:i<listed.size:=by rw [inv.size];exact (Array.getElem?_eq_some_iff.1 ho').1
  have hfacts:jl sp gs u W s'.deps:=sZ fun k hk=>by
   obtain ⟨hkn,hw⟩:=hdeps k hk
   obtain ⟨e,he,hb,hon⟩:=rO hw
   have h1:=hdone e he hb
   rw [hon] at h1
   have hksz:k<listed.size:=by rw [inv.size];simp;omega
   refine hF k hkn ?_
   simpa [hksz] using h1
  rw [Nat.zero_add] at hdebt
  have hnext:∀ v W',owes sp gs S s' g u i W v W'→wpAny P .any l.toArray Q (f+(l.length - n)) (listed.setIfInBounds i true) ((aJ u 0 (l.take n) a0).put o'.dst v) W':=fun v W' ⟨hBel,hS',hg'⟩=>by
   have hput:=Ae u v (l.take n) 0 i o' a0 hd hot
   rw [Nat.zero_add] at hput
   have hleft:=wz hisz hun hin
   rw [hput]
   refine ih _ _ W' (inv.set hi hin) hS' (fun k hk hlk=>?_) (by omega)
   by_cases hki:k=i
   ·subst hki
    unfold gu
    rw [hs',hg]
    exact hg'
   ·rw [getD_set_ne true (Ne.symm hki)] at hlk
    have hfk:=hF k hk hlk
    have hfk0:=hfk
    obtain ⟨ok,sk,hok,hsk,hlexk,_,hsuppk⟩:=hat k hk
    unfold gu at hfk ⊢
    rw [hsk] at hfk ⊢
    cases hgk:gs[k]? with
    | none=>trivial
    | some gk =>
     rw [hgk] at hfk
     simp only at hfk ⊢
     have hmap:sk.supp.map (fun k=>if k=i then v else u k)=sk.supp.map u:=List.map_congr_left fun t ht=>by
      rcases hsuppk t ht with h1 | h1
      ·rw [if_neg (by omega)]
      ·obtain ⟨e,he,hb,hon⟩:=rO h1
       have hksz:k<listed.size:=by rw [inv.size];simp;omega
       have h2:=inv.closed k ok (by simpa using hok) (by simpa [hksz] using hlk) e he hb
       have hti:t≠i:=fun e'=>by
        rw [hon,e'] at h2
        have:listed.getD i true=true:=by simpa [hisz] using h2
        rw [this] at hun
        cases hun
       rw [if_neg hti]
     rw [hmap]
     rcases hBel with hBel | hBel
     ·exact hT gk (List.mem_of_getElem? hgk) _ _ _ hBel hfk
     ·have h9:=hBel k hki hfk0
      unfold gu at h9
      rw [hsk,hgk] at h9
      exact h9
  have hd1:=hdebt W hS hfacts
  unfold wpOp
  rw [ho']
  simp only
  split
  ·rename_i hw
   rw [if_pos hw] at hd1
   exact .inl (AQ hd1 hnext)
  ·rename_i hw
   rw [if_neg hw] at hd1
   exact hnext undef W hd1
end main
end Kp
end Go.Proofs.YtancpaiaoamjlaaGreatDoor
