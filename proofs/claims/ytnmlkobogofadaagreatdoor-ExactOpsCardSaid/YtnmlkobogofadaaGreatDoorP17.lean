/- What the proof rests on, part 17. -/
import Derived.Test.YtnmlkobogofadaaGreatDoorP00
import Derived.Test.YtnmlkobogofadaaGreatDoorP16
import Derived.Laws.OwnMore
import Derived.Sort.Row
import Derived.Sort.Walk0
import Derived.Deep.Draws
import Derived.CellFam
import Derived.Deep.OwnRows
import Derived.Laws.IdiomCopy
import Derived.Lib.RowBridge
namespace Go.Proofs.YtnmlkobogofadaaGreatDoor
set_option maxRecDepth 100000
set_option maxHeartbeats 80000000
namespace Z4
open Go.RowKit
def Ints (w:World) (b o:Nat) (xs:List Nat):Prop:=∀ j,j<xs.length→w.cell? ⟨b,o+j,none⟩=some (.int .i64 ((xs[j]?.getD 0:Nat):Int))
theorem Ints.below {B:Nat} {w w':World} {b o:Nat} {xs:List Nat} (h:Ints w b o xs) (hb:Below B w w') (hB:b<B):Ints w' b o xs:=
 fun j hj=>(hb.cell (p:=⟨b,o+j,none⟩) hB).trans (h j hj)
theorem Ints.take {w:World} {b o:Nat} {xs:List Nat} (h:Ints w b o xs) (k:Nat):Ints w b o (xs.take k):=fun j hj=>by
 rw [List.length_take] at hj
 rw [List.getElem?_take_of_lt (by omega)]
 exact h j (by omega)
def IsL (B:Nat) (w:World) (v:Value) (xs:List Nat):Prop:=
 (v=.slice none 0 0∧xs=[])∨∃ b o k,v=.slice (some ⟨b,o,none⟩) xs.length k∧B≤b∧b<w.heap.size∧xs.length≤k∧Ints w b o xs
theorem IsL.shape {B:Nat} {w:World} {v:Value} {xs:List Nat} (h:IsL B w v xs) :
  ∃ p b o k,v=.slice p xs.length k∧(xs.length≠0→p=some ⟨b,o,none⟩)∧(xs.length≠0→b<w.heap.size)∧xs.length≤k∧Ints w b o xs:=by
 rcases h with ⟨rfl,rfl⟩ | ⟨b,o,k,rfl,-,h2,h3,h4⟩
 ·exact ⟨none,0,0,0,rfl,fun h=>absurd rfl h,fun h=>absurd rfl h,Nat.le_refl _,fun j hj=>by simp at hj⟩
 ·exact ⟨_,b,o,k,rfl,fun _=>rfl,fun _=>h2,h3,h4⟩
theorem IsL.below {B:Nat} {w w':World} {v:Value} {xs:List Nat} (h:IsL B w v xs) (hb:Below w.heap.size w w'):IsL B w' v xs:=by
 rcases h with h | ⟨b,o,k,rfl,h1,h2,h3,h4⟩
 ·exact .inl h
 ·exact .inr ⟨b,o,k,rfl,h1,by have:=hb.size;omega,h3,h4.below hb h2⟩
theorem IsL.mono {B B':Nat} {w:World} {v:Value} {xs:List Nat} (h:IsL B w v xs) (hB:B'≤B):IsL B' w v xs:=by
 rcases h with h | ⟨b,o,k,rfl,h1,h2,h3,h4⟩
 ·exact .inl h
 ·exact .inr ⟨b,o,k,rfl,by omega,h2,h3,h4⟩
theorem IsL.nil (B:Nat) (w:World):IsL B w (.slice none 0 0) []:=.inl ⟨rfl,rfl⟩
theorem IsL.set {B:Nat} {w:World} {v:Value} {xs:List Nat} (h:IsL B w v xs) {a:Addr} (ha:a.block<B) (u:Value):IsL B (w.setCell a u) v xs:=by
 rcases h with h | ⟨b,o,k,rfl,h1,h2,h3,h4⟩
 ·exact .inl h
 ·refine .inr ⟨b,o,k,rfl,h1,by simpa using h2,h3,fun j hj=>?_⟩
  rw [World.cell?_setCell_other _ _ _ _ (fun e=>by have:=congrArg Addr.block e;simp only at this;omega)]
  exact h4 j hj
theorem IsL.of_own {w:World} {base:Nat} {e:TypeId} {v:Value} {n:Nat} {xs:List Nat} (h:w.ownsRow base e 1 v n (xs.map fun (d:Nat)=>Value.int .i64 (d:Int))):IsL base w v xs:=by
 have hn:xs.length=n:=by have:=h.1;simpa using this
 rcases h.2 with ⟨rfl,h0⟩ | ⟨g,cap,cur,rfl,hg,hb,hc,hm,hcur,hx⟩
 ·have:xs=[]:=List.length_eq_zero_iff.1 (by omega)
  subst this
  exact IsL.nil base w
 ·refine .inr ⟨g,0,cap,by rw [hn],hg,(Array.getElem?_eq_some_iff.1 hb).1,by omega,fun j hj=>?_⟩
  have:=h.cells (g:=g) rfl j (.int .i64 ((xs[j]?.getD 0:Nat):Int)) (by rw [List.getElem?_map,List.getElem?_eq_getElem hj];rfl)
  rw [show (⟨g,0,none⟩:Addr).add j=⟨g,0+j,none⟩ from by unfold Addr.add;split <;> simp_all] at this
  exact this
def lenOf:Value→Nat | .slice _ n _=>n | _=>0
theorem vZ (p:Option Addr) (b o k:Nat) (xs:List Nat) (w:World) (hp:xs.length≠0→p=some ⟨b,o,none⟩) (hx:Ints w b o xs) (hk:xs.length≤k) (hsz:xs.length≤1099511627776) :
  Calls Tryz.prog 213 #[.slice p xs.length k] w fun e w'=>∃ n,e=.returned (.slice p n k)∧dN xs n∧w=w':=by
 have HP:=hid hp
 clear hp
 go_enter Tryz.func213,Tryz.ntmps213
 go_wp2
 go_loop [0] (fun v=>∃ n,v=.slice p n k∧n≤xs.length∧∀ j:Nat,n≤j→xs[j]?.getD 0=0) (fun v=>lenOf v)
 case atStart=>exact ⟨xs.length,rfl,Nat.le_refl _,fun j hj=>by rw [List.getElem?_eq_none hj];rfl⟩
 case round =>
  obtain ⟨n,rfl,hn,hz⟩:=hrel
  have HZ:=hid hz
  clear hz
  by_cases h0:n=0
  ·subst h0
   go_wp2
   go_ret
   exact ⟨0,rfl,⟨by omega,HZ.out,.inl rfl⟩,rfl⟩
  ·obtain ⟨m,rfl⟩:∃ m,n=m+1:=⟨n - 1,by omega⟩
   obtain ⟨x,hxm⟩:∃ x,xs[m]?.getD 0=x:=⟨_,rfl⟩
   have hpe:=HP.out (by omega)
   have cx:w.cell? ⟨b,o+m,none⟩=some (.int .i64 (x:Int)):=by rw [hx m (by omega),hxm]
   have HX:=hid hxm
   clear hxm hx h0
   by_cases hx0:x=0
   ·subst hx0
    go_wp2
    go_round
    case rel =>
     refine ⟨m,by simp [hpe],by omega,fun j hj=>?_⟩
     rcases Nat.lt_or_ge j (m+1) with h1 | h1
     ·rw [show j=m by omega];exact HX.out
     ·exact HZ.out j h1
    case measure=>simp [lenOf]
   ·have ht:((x:Int) == 0)=false:=by rw [beq_eq_false_iff_ne];omega
    go_wp2
    go_ret
    exact ⟨m+1,by simp,⟨hn,HZ.out,.inr (by rw [Nat.add_sub_cancel,HX.out];exact hx0)⟩,rfl⟩
theorem QU (p p2:Option Addr) (b o k b2 o2 k2:Nat) (xs ys:List Nat) (w:World) (hp:xs.length≠0→p=some ⟨b,o,none⟩) (hx:Ints w b o xs) (hp2:ys.length≠0→p2=some ⟨b2,o2,none⟩) (hy:Ints w b2 o2 ys)
  (dx:Dig xs) (dy:Dig ys) (tx:aG xs) (ty:aG ys) (_hsz:xs.length≤1099511627776) (hsz2:ys.length≤1099511627776) :
  Calls Tryz.prog 168 #[.slice p xs.length k,.slice p2 ys.length k2] w fun e w'=>e=.returned (.int .i64 (aI (val xs) (val ys)))∧∃ q,w' = w.drewN q:=by
 have HP:=hid hp
 have HP2:=hid hp2
 clear hp hp2
 rcases Nat.lt_trichotomy xs.length ys.length with hl | hl | hl
 ·rw [eX (iT dx ty hl)]
  have t1:((xs.length:Int) != (ys.length:Int))=true:=by rw [bne_iff_ne];omega
  go_enter Tryz.func168,Tryz.ntmps168
  go_wp2
  go_ret
  exact ⟨rfl,0,rfl⟩
 ·have hC0:bP xs ys xs.length 0:=by have:=bP.start xs ys;rwa [hl,iI,← hl] at this
  have HL:=hid hl
  have HD:=hid (fun (k:Nat) (r:Int) (h:bP xs ys k r) (hd:k=0∨r≠0)=>h.done hd dx dy tx ty)
  obtain ⟨n,hn⟩:∃ n,xs.length=n:=⟨_,rfl⟩
  rw [hn] at hl hC0 ⊢
  rw [← hl] at hsz2 ⊢
  have HN:=hid hn
  clear hn hl
  go_enter Tryz.func168,Tryz.ntmps168
  go_wp2
  go_loopw [5] (fun iv wr=>∃ (k q:Nat),iv=.int .i64 ((k:Int) - 1)∧wr=w.drewN q∧k≤n∧bP xs ys k 0) (fun iv _=>(intOf iv+1).toNat)
  case atStart=>exact ⟨n,0,rfl,rfl,Nat.le_refl _,hC0⟩
  case round =>
   clear hC0
   obtain ⟨k,q,rfl,hwr,hk,hC⟩:=hrel
   by_cases h0:k=0
   ·subst h0
    have HE:=hid (HD.out _ _ hC (.inl rfl))
    have HW:=hid hwr
    clear hC hwr
    rw [show (((0:Nat):Int) - 1) = -1 from rfl]
    go_wp2
    go_ret
    exact ⟨by rw [← HE.out];rfl,q,HW.out⟩
   ·obtain ⟨m,rfl⟩:∃ m,k=m+1:=⟨k - 1,by omega⟩
    obtain ⟨x,hxm⟩:∃ x,xs[m]?.getD 0=x:=⟨_,rfl⟩
    obtain ⟨y,hym⟩:∃ x,ys[m]?.getD 0=x:=⟨_,rfl⟩
    have hC1:=hC.step
    rw [hxm,hym] at hC1
    have hn1:=HN.out
    have hn2:=HL.out
    have hpe:=HP.out (by omega)
    have hpe2:=HP2.out (by omega)
    have cx:wr.cell? ⟨b,o+m,none⟩=some (.int .i64 (x:Int)):=by rw [hwr,World.cell?_drewN,hx m (by omega),hxm]
    have cy:wr.cell? ⟨b2,o2+m,none⟩=some (.int .i64 (y:Int)):=by rw [hwr,World.cell?_drewN,hy m (by omega),hym]
    have HC:=hid hC1
    have HW:=hid hwr
    clear hC hC1 hwr hxm hym hx hy h0 hn1 hn2
    rcases Nat.lt_trichotomy x y with hxy | hxy | hxy
    ·have HE:=hid (HD.out _ _ HC.out (.inr (by rw [eX hxy];omega)))
     have t1:((x:Int) != (y:Int))=true:=by rw [bne_iff_ne];omega
     go_wp2
     go_quiet (fail)
     go_wp2
     go_quiet (fail)
     go_wp2
     go_ret
     exact ⟨by rw [← HE.out,eX hxy];rfl,_,by rw [HW.out];first | rfl | (simp only [World.drewN_drewN];rfl)⟩
    ·subst hxy
     have HC2:Hid (bP xs ys m 0):=by have:=HC.out;rwa [iI] at this
     go_wp2
     go_quiet (fail)
     go_wp2
     go_roundw
     case rel=>exact ⟨m,_,by go_num,by rw [HW.out];first | rfl | (simp only [World.drewN_drewN];rfl),by omega,HC2.out⟩
     case measure=>simp [intOf]
    ·have HE:=hid (HD.out _ _ HC.out (.inr (by rw [gV hxy];omega)))
     have t1:((x:Int) != (y:Int))=true:=by rw [bne_iff_ne];omega
     go_wp2
     go_quiet (fail)
     go_wp2
     go_quiet (fail)
     go_wp2
     go_ret
     exact ⟨by rw [← HE.out,gV hxy];rfl,_,by rw [HW.out];first | rfl | (simp only [World.drewN_drewN];rfl)⟩
 ·rw [gV (iT dy tx hl)]
  have t1:((xs.length:Int) != (ys.length:Int))=true:=by rw [bne_iff_ne];omega
  go_enter Tryz.func168,Tryz.ntmps168
  go_wp2
  go_ret
  exact ⟨rfl,0,rfl⟩
theorem mW {xs:List Nat} (h:Dig xs) (hl:xs.length≤4):val xs<10000000000000000:=by
 have h1:=aU h
 have h2:B4 ^ xs.length≤B4 ^ 4:=Nat.pow_le_pow_right jB hl
 have h3:B4 ^ 4=10000000000000000:=by decide
 omega
theorem Nw (p:Option Addr) (b o k f:Nat) (xs:List Nat) (w:World) (hp:xs.length≠0→p=some ⟨b,o,none⟩) (hx:Ints w b o xs) (dx:Dig xs) (hsz:xs.length≤1099511627776) (hf:f≤xs.length) (hl:xs.length - f≤4) :
  Calls Tryz.prog 215 #[.slice p xs.length k,.int .i64 (f:Int)] w fun e w'=>e=.returned (.int .i64 ((val (xs.drop f):Nat):Int))∧w=w':=by
 have HP:=hid hp
 clear hp
 go_enter Tryz.func215,Tryz.ntmps215
 go_wp2
 go_loop [5,6] (fun nv iv=>∃ m:Nat,nv=.int .i64 ((val (xs.drop m):Nat):Int)∧iv=.int .i64 ((m:Int) - 1)∧f≤m∧m≤xs.length) (fun _ iv=>(intOf iv+1).toNat)
 case atStart=>exact ⟨xs.length,by rw [List.drop_of_length_le (Nat.le_refl _)];rfl,rfl,hf,Nat.le_refl _⟩
 case round =>
  obtain ⟨m,rfl,rfl,hm1,hm2⟩:=hrel
  rcases Nat.lt_or_ge f m with hlt | hge
  ·obtain ⟨j,rfl⟩:∃ j,m=j+1:=⟨m - 1,by omega⟩
   obtain ⟨x,hxj⟩:∃ x,xs[j]?.getD 0=x:=⟨_,rfl⟩
   have hpe:=HP.out (by omega)
   have cx:w.cell? ⟨b,o+j,none⟩=some (.int .i64 (x:Int)):=by rw [hx j (by omega),hxj]
   have hx1:x<10000:=hxj ▸ dx.getD j
   have hv:val (xs.drop j)=x+10000*val (xs.drop (j+1)):=by rw [dU xs j (by omega),hxj,iL]
   have hv2:val (xs.drop j)<10000000000000000:=mW (dx.drop j) (by rw [List.length_drop];omega)
   obtain ⟨V,hV⟩:∃ V,val (xs.drop (j+1))=V:=⟨_,rfl⟩
   rw [hV] at hv ⊢
   have HV:=hid hv
   have b1:V*10000+x<10000000000000000:=by omega
   clear hv hV hxj hx hv2
   go_wp2
   go_round
   case rel=>exact ⟨j,by rw [HV.out];go_num,by go_num,by omega,by omega⟩
   case measure=>simp [intOf]
  ·obtain rfl:f=m:=by omega
   go_wp2
   go_ret
   exact ⟨rfl,rfl⟩
end Z4
namespace Z4
open Go.RowKit Go.Sort
abbrev E4 (d:Nat):Value:=.int .i64 (d:Int)
def aF (w:World) (b o:Nat) (xs:List Nat):Prop:=∀ j,j<xs.length→w.cell? ⟨b,o+j,none⟩=some (E4 (xs[j]?.getD 0))∧w.frozen? ⟨b,o+j,none⟩=false
def au (w:World) (q b o:Nat) (xs:List Nat):World:=putRow E4 (Sort.ahead w q) b o xs.toArray
theorem vY (xs:List Nat) (j:Nat):xs.toArray[j]! = xs[j]?.getD 0:=by
 by_cases h:j<xs.length
 ·rw [getElem!_pos _ j (by simpa using h)];simp [h]
 ·rw [getElem!_neg _ j (by simpa using h),List.getElem?_eq_none (by omega)];rfl
theorem lg {w:World} {b o:Nat} {xs:List Nat}:aF w b o xs↔Holds E4 w b o xs.toArray:=by
 unfold aF Holds
 simp only [List.size_toArray,vY]
theorem aF.ints {w:World} {b o:Nat} {xs:List Nat} (h:aF w b o xs):Ints w b o xs:=fun j hj=>(h j hj).1
theorem aF.below {B:Nat} {w w':World} {b o:Nat} {xs:List Nat} (h:aF w b o xs) (hb:Below B w w') (hB:b<B):aF w' b o xs:=
 fun j hj=>⟨(hb.cell (p:=⟨b,o+j,none⟩) hB).trans (h j hj).1,(hb.frozen (p:=⟨b,o+j,none⟩) hB).trans (h j hj).2⟩
theorem aF.drop {w:World} {b o:Nat} {xs:List Nat} (h:aF w b o xs) (k:Nat):aF w b (o+k) (xs.drop k):=fun j hj=>by
 have:=h (k+j) (by simp at hj;omega)
 rw [Nat.add_assoc,List.getElem?_drop]
 exact this
theorem aF.take {w:World} {b o:Nat} {xs:List Nat} (h:aF w b o xs) (k:Nat):aF w b o (xs.take k):=fun j hj=>by
 have hj':j<k∧j<xs.length:=by simp at hj;omega
 have:=h j hj'.2
 rw [List.getElem?_take_of_lt hj'.1]
 exact this
theorem iR (w:World) (b o:Nat) (xs:List Nat) (h:aF w b o xs):au w 0 b o xs=w:=by
 unfold au
 rw [ahead_zero]
 exact putRow_self E4 w b o xs.toArray (lg.1 h)
theorem bI (w:World) (q b o:Nat) (xs ys:List Nat) (h:aF w b o xs) (hl:ys.length=xs.length):aF (au w q b o ys) b o ys:=
 lg.2 (holds_putRow E4 (Sort.ahead w q) b o xs.toArray ys.toArray (holds_ahead _ _ _ _ _ _ (lg.1 h)) (by simpa using hl))
theorem gI (w:World) (q b o:Nat) (xs:List Nat) (i x:Nat) (hi:i<xs.length):(au w q b o xs).setCell ⟨b,o+i,none⟩ (.int .i64 (x:Int))=au w q b o (xs.set i x):=by
 unfold au
 rw [show (Value.int .i64 (x:Int))=E4 x from rfl,putRow_set E4 _ b o xs.toArray i x (by simpa using hi),List.setIfInBounds_toArray]
theorem rQ (w:World) (m q b o:Nat) (xs:List Nat):(au w m b o xs).drewN q=au w (m+q) b o xs:=by
 show Sort.ahead (putRow E4 (Sort.ahead w m) b o xs.toArray) q=_
 rw [putRow_ahead E4 w m,ahead_ahead,← putRow_ahead]
 rfl
theorem oL (w:World) (m b o:Nat) (xs:List Nat):(au w m b o xs).drew=au w (m+1) b o xs:=rQ w m 1 b o xs
theorem oI (w:World) (m q b o:Nat) (xs ys:List Nat) (h:ys.length=xs.length):au (au w m b o xs) q b o ys=au w (m+q) b o ys:=by
 unfold au
 rw [← putRow_ahead,putRow_putRow E4 _ b o xs.toArray ys.toArray (by simpa using h),ahead_ahead]
theorem dA (w:World) (q b o:Nat) (xs:List Nat) (a:Addr) (h:a.block≠b∨a.off<o∨o+xs.length≤a.off):(au w q b o xs).cell? a=w.cell? a:=by
 unfold au
 rw [cell?_putRow_other E4 _ b o xs.toArray a (by simpa using h),cell?_ahead]
theorem eH (w:World) (q b o:Nat) (xs:List Nat) (a:Addr):(au w q b o xs).frozen? a=w.frozen? a:=by
 unfold au
 rw [frozen?_putRow,frozen?_ahead]
@[simp] theorem size_putL (w:World) (q b o:Nat) (xs:List Nat):(au w q b o xs).heap.size=w.heap.size:=by
 unfold au
 rw [size_putRow]
 rfl
theorem Ints.au {w:World} {q b o bb bo:Nat} {xs ys:List Nat} (h:Ints w bb bo ys) (hne:bb≠b∨bo+ys.length≤o∨o+xs.length≤bo):Ints (au w q b o xs) bb bo ys:=fun j hj=>by
 rw [dA _ _ _ _ _ _ (by simp only;omega)]
 exact h j hj
theorem aF.au {w:World} {q b o bb bo:Nat} {xs ys:List Nat} (h:aF w bb bo ys) (hne:bb≠b∨bo+ys.length≤o∨o+xs.length≤bo):aF (au w q b o xs) bb bo ys:=fun j hj=>by
 rw [dA _ _ _ _ _ _ (by simp only;omega),eH]
 exact h j hj
theorem uX (w:World) (q b o:Nat) (xs:List Nat) (k:Nat) (h:k≠b):(au w q b o xs).heap[k]? = w.heap[k]?:=by
 unfold Go.Proofs.YtnmlkobogofadaaGreatDoor.Z4.au putRow mapBlock Sort.ahead
 simp only [Array.getElem?_modify]
 rw [if_neg (by omega)]
theorem dP {B:Nat} (w:World) (q b o:Nat) (xs:List Nat) (h:B≤b):Below B w (au w q b o xs):=
 ⟨rfl,rfl,rfl,by simp,fun k hk=>uX _ _ _ _ _ _ (by omega)⟩
theorem lu:(Tryz.prog.info? 3).map (fun i=>(i.zero,i.size,i.bytes))=some (some (.int .i64 0),1,8):=by kernel_rfl
def aJ (w:World) (n:Nat):World:=w.alloc (.cells (madeCells #[.int .i64 0] n) 3)
theorem dB (w:World) (n:Nat):(aJ w n).heap.size=w.heap.size+1:=by unfold aJ;simp
theorem fM (n:Nat) (hn:n≤2199023255552) (w:World) :
  (Instr.makeSlice 36 (.int .i64 (n:Int)) (.int .i64 (n:Int))).run Tryz.prog w=.ok (.slice (some ⟨w.heap.size,0,none⟩) n n) (aJ w n):=
 run_make_row' 36 3 _ 8 Tryz.underlying36 lu rfl .i64 .i64 n (by omega) (by omega) w
theorem dM (w:World) (n:Nat):aF (aJ w n) w.heap.size 0 (List.replicate n 0):=fun j hj=>by
 have hj':j<n:=by simpa using hj
 unfold aJ
 rw [World.cell?_alloc_at _ _ _ _ rfl,World.frozen?_alloc_at _ _ _ _ rfl]
 refine ⟨?_,rfl⟩
 simp only [madeCells,Nat.zero_add,Array.getElem?_map,List.getElem?_replicate,hj',if_true]
 rw [Array.getElem?_eq_getElem (by simpa using hj')]
 simp [Nat.mod_one]
theorem bD (w:World) (n:Nat):Below w.heap.size w (aJ w n):=(Below.refl _ _).alloc (Nat.le_refl _) _
theorem addr_add (b o k:Nat):(⟨b,o,none⟩:Addr).add k=⟨b,o+k,none⟩:=by unfold Addr.add;split <;> simp_all
end Z4
namespace Z4
open Go.RowKit Go.Sort
def jF (w:World) (n:Nat) (e:Ending) (w':World):Prop:=∃ v ds,e=.returned v∧IsL w.heap.size w' v ds∧Dig ds∧aG ds∧val ds=n∧Below w.heap.size w w'
theorem kW {B:Nat} (v:Value) (xs:List Nat) (w:World) (h:IsL B w v xs) (hsz:xs.length≤1099511627776) :
  Calls Tryz.prog 213 #[v] w fun e w'=>∃ v' n,e=.returned v'∧dN xs n∧IsL B w v' (xs.take n)∧w=w':=by
 rcases h with ⟨rfl,rfl⟩ | ⟨b,o,k,rfl,h1,h2,h3,h4⟩
 ·refine (vZ none 0 0 0 [] w (fun h=>absurd rfl h) (fun j hj=>by simp at hj) (by simp) (by simp)).mono ?_
  rintro e w' ⟨n,rfl,ht,rfl⟩
  obtain rfl:n=0:=by have:=ht.1;simpa using this
  exact ⟨_,0,rfl,ht,.inl ⟨rfl,rfl⟩,rfl⟩
 ·refine (vZ _ b o k xs w (fun _=>rfl) h4 h3 hsz).mono ?_
  rintro e w' ⟨n,rfl,ht,rfl⟩
  have hl:(xs.take n).length=n:=by rw [List.length_take];exact Nat.min_eq_left ht.1
  have:=ht.1
  exact ⟨_,n,rfl,ht,.inr ⟨b,o,k,by rw [hl],h1,h2,by omega,h4.take n⟩,rfl⟩
theorem vw {B B2:Nat} (v v2:Value) (xs ys:List Nat) (w:World) (h:IsL B w v xs) (h2:IsL B2 w v2 ys) (dx:Dig xs) (dy:Dig ys) (tx:aG xs) (ty:aG ys) (hsz:xs.length≤1099511627776) (hsz2:ys.length≤1099511627776) :
  Calls Tryz.prog 168 #[v,v2] w fun e w'=>e=.returned (.int .i64 (aI (val xs) (val ys)))∧∃ q,w' = w.drewN q:=by
 obtain ⟨p,b,o,k,rfl,hp,hb,hk,hx⟩:=h.shape
 obtain ⟨p2,b2,o2,k2,rfl,hp2,hb2,hk2,hy⟩:=h2.shape
 exact QU p p2 b o k b2 o2 k2 xs ys w hp hx hp2 hy dx dy tx ty hsz hsz2
theorem xX {B:Nat} (v:Value) (f:Nat) (xs:List Nat) (w:World) (h:IsL B w v xs) (dx:Dig xs) (hsz:xs.length≤1099511627776) (hf:f≤xs.length) (hl:xs.length - f≤4) :
  Calls Tryz.prog 215 #[v,.int .i64 (f:Int)] w fun e w'=>e=.returned (.int .i64 ((val (xs.drop f):Nat):Int))∧w=w':=by
 obtain ⟨p,b,o,k,rfl,hp,hb,hk,hx⟩:=h.shape
 exact Nw p b o k f xs w hp hx dx hsz hf hl
abbrev enc (d:Nat):Value:=.int .i64 (d:Int)
theorem iV (ds:List Nat) (d:Nat):(ds ++ [d]).map enc=ds.map enc ++ [.int .i64 (d:Int)]:=by simp
theorem KC (b o k b2 o2 k2:Nat) (xs ys:List Nat) (w:World) (hbw:b<w.heap.size) (hx:Ints w b o xs) (hbw2:b2<w.heap.size) (hy:Ints w b2 o2 ys)
  (dx:Dig xs) (dy:Dig ys) (hl:ys.length≤xs.length) (hv:val ys≤val xs) (hsz:xs.length≤1099511627776) :
  Calls Tryz.prog 169 #[.slice (some ⟨b,o,none⟩) xs.length k,.slice (some ⟨b2,o2,none⟩) ys.length k2] w (jF w (val xs - val ys)):=by
 have HP:=hid (And.intro hbw hx)
 have HP2:=hid (And.intro hbw2 hy)
 have HV:=hid (And.intro hl (And.intro hv hl))
 clear hbw hbw2 hx hy hv
 obtain ⟨i0,hi,hz0,hz1,hz2⟩:=info_parts lu
 obtain ⟨V,hV⟩:∃ V,val xs - val ys=V:=⟨_,rfl⟩
 rw [hV]
 have HVV:=hid hV
 clear hV
 go_enter Tryz.func169,Tryz.ntmps169
 go_wp2
 go_loopw [5,6,7] (fun ov cv iv wr=>∃ (i c:Nat) (ds:List Nat),iv=.int .i64 i∧cv=.int .i64 c∧wr.ownsRow w.heap.size 3 1 ov i (ds.map enc)∧jw xs ys ds i c∧Below w.heap.size w wr) (fun _ _ iv _=>xs.length - (intOf iv).toNat)
 case atStart=>exact ⟨0,0,[],rfl,rfl,World.ownsRow_nil _ _ _ _,jw.start xs ys,Below.refl _ _⟩
 case round =>
  obtain ⟨i,c,ds,rfl,rfl,hown,hI,hB⟩:=hrel
  have hc1:=hI.le
  have hik:=hI.hk
  by_cases hlt:i<xs.length
  ·obtain ⟨x,hxi⟩:∃ x,xs[i]?.getD 0=x:=⟨_,rfl⟩
   obtain ⟨y,hyi⟩:∃ y,ys[i]?.getD 0=y:=⟨_,rfl⟩
   have hx1:x<10000:=hxi ▸ dx.getD i
   have hy1:y<10000:=hyi ▸ dy.getD i
   have cx:wr.cell? ⟨b,o+i,none⟩=some (.int .i64 (x:Int)):=by rw [hB.cell (p:=⟨b,o+i,none⟩) (HP.out.1),HP.out.2 i hlt,hxi]
   have HI:=hid (fun (d c':Nat) (hd:d<B4) (hc:c'≤1) (e:x+c' * B4=d+y+c)=>hI.step hlt hxi hyi hd hc e)
   have HB:=hid hB
   have HO:=hid hown
   by_cases hiy:i<ys.length
   ·have cy:wr.cell? ⟨b2,o2+i,none⟩=some (.int .i64 (y:Int)):=by rw [hB.cell (p:=⟨b2,o2+i,none⟩) (HP2.out.1),HP2.out.2 i hiy,hyi]
    clear hI hxi hyi
    by_cases hs:(x:Int) - (c:Int) - (y:Int)<0
    ·obtain ⟨d,hd⟩:∃ d:Nat,(d:Int)=(x:Int) - (c:Int) - (y:Int)+10000:=⟨((x:Int) - (c:Int) - (y:Int)+10000).toNat,by omega⟩
     have hd1:d<10000:=by omega
     have hs2:(x:Int) - (c:Int)<(y:Int):=by omega
     have HN:=hid (HI.out d 1 hd1 (by omega) (by rw [iL];omega))
     have HD:=hid hd
     clear hd
     go_wp2_with (first
      | (at_builtin;refine wpList_append_own _ rfl _ _ 36 rfl w.heap.size 3 i0 (.int .i64 0) 1 8 Tryz.underlying36 hi hz0 hz1 hz2 rfl (by decide) _ _ _ rfl (HO.out.alloc _) ⟨wr.heap.size,0,none⟩ 1 1 [.int .i64 (d:Int)] rfl rfl ?c1 ?c2 ?c3 ?c4 ?c5 ?_))
     case c1 =>
      intro j u hj
      match j,hj with
      | 0,hj=>simp at hj;subst hj;first | (simp;have:=HD.out;omega) | (simp [Addr.add];have:=HD.out;omega)
     case c2=>first | rfl | (intro u hu;simp at hu;subst hu;rfl)
     case c3=>unfold maxLen;omega
     case c4=>omega
     case c5=>have:=HB.out.size;simp;omega
     intro v' w1 hown' hgrow _
     have hB2:Below w.heap.size w w1:=(HB.out.alloc HB.out.size _).grown hgrow (by have:=HB.out.size;simp;omega) (fun k hk=>(HO.out.lt k hk).1)
     rw [← iV] at hown'
     have HO2:=hid hown'
     have HB2:=hid hB2
     clear hown' hgrow hB2
     go_wp2
     go_roundw
     case rel=>exact ⟨i+1,1,ds ++ [d],by go_num,rfl,HO2.out,HN.out,HB2.out⟩
     case measure=>simp [intOf];omega
    ·obtain ⟨d,hd⟩:∃ d:Nat,(d:Int)=(x:Int) - (c:Int) - (y:Int):=⟨((x:Int) - (c:Int) - (y:Int)).toNat,by omega⟩
     have hd1:d<10000:=by omega
     have hs2:¬ (x:Int) - (c:Int)<(y:Int):=by omega
     have hs3:(y:Int)≤(x:Int) - (c:Int):=by omega
     have HN:=hid (HI.out d 0 hd1 (by omega) (by rw [iL];omega))
     have HD:=hid hd
     clear hd
     go_wp2_with (first
      | (at_builtin;refine wpList_append_own _ rfl _ _ 36 rfl w.heap.size 3 i0 (.int .i64 0) 1 8 Tryz.underlying36 hi hz0 hz1 hz2 rfl (by decide) _ _ _ rfl (HO.out.alloc _) ⟨wr.heap.size,0,none⟩ 1 1 [.int .i64 (d:Int)] rfl rfl ?c1 ?c2 ?c3 ?c4 ?c5 ?_))
     case c1 =>
      intro j u hj
      match j,hj with
      | 0,hj=>simp at hj;subst hj;first | (simp;have:=HD.out;omega) | (simp [Addr.add];have:=HD.out;omega)
     case c2=>first | rfl | (intro u hu;simp at hu;subst hu;rfl)
     case c3=>unfold maxLen;omega
     case c4=>omega
     case c5=>have:=HB.out.size;simp;omega
     intro v' w1 hown' hgrow _
     have hB2:Below w.heap.size w w1:=(HB.out.alloc HB.out.size _).grown hgrow (by have:=HB.out.size;simp;omega) (fun k hk=>(HO.out.lt k hk).1)
     rw [← iV] at hown'
     have HO2:=hid hown'
     have HB2:=hid hB2
     clear hown' hgrow hB2
     go_wp2
     go_roundw
     case rel=>exact ⟨i+1,0,ds ++ [d],by go_num,rfl,HO2.out,HN.out,HB2.out⟩
     case measure=>simp [intOf];omega
   ·obtain rfl:y=0:=by rw [← hyi,List.getElem?_eq_none (by omega)];rfl
    clear hI hxi hyi
    by_cases hs:(x:Int) - (c:Int)<0
    ·obtain ⟨d,hd⟩:∃ d:Nat,(d:Int)=(x:Int) - (c:Int)+10000:=⟨((x:Int) - (c:Int)+10000).toNat,by omega⟩
     have hd1:d<10000:=by omega
     have hs2:x<c:=by omega
     have HN:=hid (HI.out d 1 hd1 (by omega) (by rw [iL];omega))
     have HD:=hid hd
     clear hd
     go_wp2_with (first
      | (at_builtin;refine wpList_append_own _ rfl _ _ 36 rfl w.heap.size 3 i0 (.int .i64 0) 1 8 Tryz.underlying36 hi hz0 hz1 hz2 rfl (by decide) _ _ _ rfl (HO.out.alloc _) ⟨wr.heap.size,0,none⟩ 1 1 [.int .i64 (d:Int)] rfl rfl ?c1 ?c2 ?c3 ?c4 ?c5 ?_))
     case c1 =>
      intro j u hj
      match j,hj with
      | 0,hj=>simp at hj;subst hj;first | (simp;have:=HD.out;omega) | (simp [Addr.add];have:=HD.out;omega)
     case c2=>first | rfl | (intro u hu;simp at hu;subst hu;rfl)
     case c3=>unfold maxLen;omega
     case c4=>omega
     case c5=>have:=HB.out.size;simp;omega
     intro v' w1 hown' hgrow _
     have hB2:Below w.heap.size w w1:=(HB.out.alloc HB.out.size _).grown hgrow (by have:=HB.out.size;simp;omega) (fun k hk=>(HO.out.lt k hk).1)
     rw [← iV] at hown'
     have HO2:=hid hown'
     have HB2:=hid hB2
     clear hown' hgrow hB2
     go_wp2
     go_roundw
     case rel=>exact ⟨i+1,1,ds ++ [d],by go_num,rfl,HO2.out,HN.out,HB2.out⟩
     case measure=>simp [intOf];omega
    ·obtain ⟨d,hd⟩:∃ d:Nat,(d:Int)=(x:Int) - (c:Int):=⟨((x:Int) - (c:Int)).toNat,by omega⟩
     have hd1:d<10000:=by omega
     have hs2:¬ x<c:=by omega
     have hs3:c≤x:=by omega
     have HN:=hid (HI.out d 0 hd1 (by omega) (by rw [iL];omega))
     have HD:=hid hd
     clear hd
     go_wp2_with (first
      | (at_builtin;refine wpList_append_own _ rfl _ _ 36 rfl w.heap.size 3 i0 (.int .i64 0) 1 8 Tryz.underlying36 hi hz0 hz1 hz2 rfl (by decide) _ _ _ rfl (HO.out.alloc _) ⟨wr.heap.size,0,none⟩ 1 1 [.int .i64 (d:Int)] rfl rfl ?c1 ?c2 ?c3 ?c4 ?c5 ?_))
     case c1 =>
      intro j u hj
      match j,hj with
      | 0,hj=>simp at hj;subst hj;first | (simp;have:=HD.out;omega) | (simp [Addr.add];have:=HD.out;omega)
     case c2=>first | rfl | (intro u hu;simp at hu;subst hu;rfl)
     case c3=>unfold maxLen;omega
     case c4=>omega
     case c5=>have:=HB.out.size;simp;omega
     intro v' w1 hown' hgrow _
     have hB2:Below w.heap.size w w1:=(HB.out.alloc HB.out.size _).grown hgrow (by have:=HB.out.size;simp;omega) (fun k hk=>(HO.out.lt k hk).1)
     rw [← iV] at hown'
     have HO2:=hid hown'
     have HB2:=hid hB2
     clear hown' hgrow hB2
     go_wp2
     go_roundw
     case rel=>exact ⟨i+1,0,ds ++ [d],by go_num,rfl,HO2.out,HN.out,HB2.out⟩
     case measure=>simp [intOf];omega
  ·obtain rfl:i=xs.length:=by omega
   have hD:=hid (hI.done HV.out.1 HV.out.2.1)
   have hds:ds.length=xs.length:=hI.len
   have HL:=hid (IsL.of_own hown)
   have HI:=hid hI
   have HB:=hid hB
   have hds2:ds.length≤1099511627776:=by omega
   have HDS:=hid hds2
   clear hI hds hown hds2 hB
   go_wp2_with fail
   refine (kW _ ds _ HL.out HDS.out).mono ?_
   rintro e w' ⟨v',n,rfl,ht,hv',rfl⟩
   have HT:=hid (And.intro ht hv')
   clear ht hv'
   go_wp2
   go_ret
   exact ⟨_,_,rfl,HT.out.2,HI.out.dig.take n,HT.out.1.trimmed,by rw [HT.out.1.val,hD.out,HVV.out],HB.out⟩
theorem TD (p2:Option Addr) (b o k k2:Nat) (xs:List Nat) (w:World) (hbw:b<w.heap.size) (hx:Ints w b o xs)
  (dx:Dig xs) (hsz:xs.length≤1099511627776) :
  Calls Tryz.prog 169 #[.slice (some ⟨b,o,none⟩) xs.length k,.slice p2 0 k2] w (jF w (val xs - val [])):=by
 have HP:=hid (And.intro hbw hx)
 have HV:=hid (And.intro (Nat.zero_le xs.length:([]:List Nat).length≤xs.length) (And.intro (Nat.zero_le (val xs):val []≤val xs) trivial))
 clear hbw hx
 obtain ⟨i0,hi,hz0,hz1,hz2⟩:=info_parts lu
 obtain ⟨V,hV⟩:∃ V,val xs - val []=V:=⟨_,rfl⟩
 rw [hV]
 have HVV:=hid hV
 clear hV
 go_enter Tryz.func169,Tryz.ntmps169
 go_wp2
 go_loopw [5,6,7] (fun ov cv iv wr=>∃ (i c:Nat) (ds:List Nat),iv=.int .i64 i∧cv=.int .i64 c∧wr.ownsRow w.heap.size 3 1 ov i (ds.map enc)∧jw xs [] ds i c∧Below w.heap.size w wr) (fun _ _ iv _=>xs.length - (intOf iv).toNat)
 case atStart=>exact ⟨0,0,[],rfl,rfl,World.ownsRow_nil _ _ _ _,jw.start xs [],Below.refl _ _⟩
 case round =>
  obtain ⟨i,c,ds,rfl,rfl,hown,hI,hB⟩:=hrel
  have hc1:=hI.le
  have hik:=hI.hk
  by_cases hlt:i<xs.length
  ·obtain ⟨x,hxi⟩:∃ x,xs[i]?.getD 0=x:=⟨_,rfl⟩
   obtain ⟨y,hyi⟩:∃ y,([]:List Nat)[i]?.getD 0=y:=⟨_,rfl⟩
   have hx1:x<10000:=hxi ▸ dx.getD i
   have cx:wr.cell? ⟨b,o+i,none⟩=some (.int .i64 (x:Int)):=by rw [hB.cell (p:=⟨b,o+i,none⟩) (HP.out.1),HP.out.2 i hlt,hxi]
   have HI:=hid (fun (d c':Nat) (hd:d<B4) (hc:c'≤1) (e:x+c' * B4=d+y+c)=>hI.step hlt hxi hyi hd hc e)
   have HB:=hid hB
   have HO:=hid hown
   obtain rfl:y=0:=by rw [← hyi];rfl
   clear hI hxi hyi
   by_cases hs:(x:Int) - (c:Int)<0
   ·obtain ⟨d,hd⟩:∃ d:Nat,(d:Int)=(x:Int) - (c:Int)+10000:=⟨((x:Int) - (c:Int)+10000).toNat,by omega⟩
    have hd1:d<10000:=by omega
    have hs2:x<c:=by omega
    have HN:=hid (HI.out d 1 hd1 (by omega) (by rw [iL];omega))
    have HD:=hid hd
    clear hd
    go_wp2_with (first
     | (at_builtin;refine wpList_append_own _ rfl _ _ 36 rfl w.heap.size 3 i0 (.int .i64 0) 1 8 Tryz.underlying36 hi hz0 hz1 hz2 rfl (by decide) _ _ _ rfl (HO.out.alloc _) ⟨wr.heap.size,0,none⟩ 1 1 [.int .i64 (d:Int)] rfl rfl ?c1 ?c2 ?c3 ?c4 ?c5 ?_))
    case c1 =>
     intro j u hj
     match j,hj with
     | 0,hj=>simp at hj;subst hj;first | (simp;have:=HD.out;omega) | (simp [Addr.add];have:=HD.out;omega)
    case c2=>first | rfl | (intro u hu;simp at hu;subst hu;rfl)
    case c3=>unfold maxLen;omega
    case c4=>omega
    case c5=>have:=HB.out.size;simp;omega
    intro v' w1 hown' hgrow _
    have hB2:Below w.heap.size w w1:=(HB.out.alloc HB.out.size _).grown hgrow (by have:=HB.out.size;simp;omega) (fun k hk=>(HO.out.lt k hk).1)
    rw [← iV] at hown'
    have HO2:=hid hown'
    have HB2:=hid hB2
    clear hown' hgrow hB2
    go_wp2
    go_roundw
    case rel=>exact ⟨i+1,1,ds ++ [d],by go_num,rfl,HO2.out,HN.out,HB2.out⟩
    case measure=>simp [intOf];omega
   ·obtain ⟨d,hd⟩:∃ d:Nat,(d:Int)=(x:Int) - (c:Int):=⟨((x:Int) - (c:Int)).toNat,by omega⟩
    have hd1:d<10000:=by omega
    have hs2:¬ x<c:=by omega
    have hs3:c≤x:=by omega
    have HN:=hid (HI.out d 0 hd1 (by omega) (by rw [iL];omega))
    have HD:=hid hd
    clear hd
    go_wp2_with (first
     | (at_builtin;refine wpList_append_own _ rfl _ _ 36 rfl w.heap.size 3 i0 (.int .i64 0) 1 8 Tryz.underlying36 hi hz0 hz1 hz2 rfl (by decide) _ _ _ rfl (HO.out.alloc _) ⟨wr.heap.size,0,none⟩ 1 1 [.int .i64 (d:Int)] rfl rfl ?c1 ?c2 ?c3 ?c4 ?c5 ?_))
    case c1 =>
     intro j u hj
     match j,hj with
     | 0,hj=>simp at hj;subst hj;first | (simp;have:=HD.out;omega) | (simp [Addr.add];have:=HD.out;omega)
    case c2=>first | rfl | (intro u hu;simp at hu;subst hu;rfl)
    case c3=>unfold maxLen;omega
    case c4=>omega
    case c5=>have:=HB.out.size;simp;omega
    intro v' w1 hown' hgrow _
    have hB2:Below w.heap.size w w1:=(HB.out.alloc HB.out.size _).grown hgrow (by have:=HB.out.size;simp;omega) (fun k hk=>(HO.out.lt k hk).1)
    rw [← iV] at hown'
    have HO2:=hid hown'
    have HB2:=hid hB2
    clear hown' hgrow hB2
    go_wp2
    go_roundw
    case rel=>exact ⟨i+1,0,ds ++ [d],by go_num,rfl,HO2.out,HN.out,HB2.out⟩
    case measure=>simp [intOf];omega
  ·obtain rfl:i=xs.length:=by omega
   have hD:=hid (hI.done HV.out.1 HV.out.2.1)
   have hds:ds.length=xs.length:=hI.len
   have HL:=hid (IsL.of_own hown)
   have HI:=hid hI
   have HB:=hid hB
   have hds2:ds.length≤1099511627776:=by omega
   have HDS:=hid hds2
   clear hI hds hown hds2 hB
   go_wp2_with fail
   refine (kW _ ds _ HL.out HDS.out).mono ?_
   rintro e w' ⟨v',n,rfl,ht,hv',rfl⟩
   have HT:=hid (And.intro ht hv')
   clear ht hv'
   go_wp2
   go_ret
   exact ⟨_,_,rfl,HT.out.2,HI.out.dig.take n,HT.out.1.trimmed,by rw [HT.out.1.val,hD.out,HVV.out],HB.out⟩
theorem Me (p p2:Option Addr) (k k2:Nat) (w:World):Calls Tryz.prog 169 #[.slice p 0 k,.slice p2 0 k2] w (jF w 0):=by
 go_enter Tryz.func169,Tryz.ntmps169
 go_wp2
 refine wp_loop_rounds 1 ?_
 rw [rounds_succ]
 go_wp2_with fail
 refine (kW _ [] _ (IsL.nil w.heap.size _) (by simp)).mono ?_
 rintro e w' ⟨v',n,rfl,ht,hv',rfl⟩
 have HT:=hid (And.intro ht hv')
 clear ht hv'
 go_wp2
 go_ret
 exact ⟨_,_,rfl,HT.out.2,Dig.nil.take n,HT.out.1.trimmed,by rw [HT.out.1.val];rfl,Below.refl _ _⟩
theorem nU {B B2:Nat} (v v2:Value) (xs ys:List Nat) (w:World) (h:IsL B w v xs) (h2:IsL B2 w v2 ys) (dx:Dig xs) (dy:Dig ys) (ty:aG ys) (hv:val ys≤val xs) (hsz:xs.length≤1099511627776) :
  Calls Tryz.prog 169 #[v,v2] w (jF w (val xs - val ys)):=by
 have hl:=Qb dx ty hv
 obtain ⟨p,b,o,k,rfl,hp,hb,hk,hx⟩:=h.shape
 obtain ⟨p2,b2,o2,k2,rfl,hp2,hb2,hk2,hy⟩:=h2.shape
 by_cases h0:xs.length=0
 ·obtain rfl:xs=[]:=List.length_eq_zero_iff.1 h0
  obtain rfl:ys=[]:=List.length_eq_zero_iff.1 (by simpa using hl)
  exact Me p p2 k k2 w
 ·rw [hp h0]
  by_cases h1:ys.length=0
  ·obtain rfl:ys=[]:=List.length_eq_zero_iff.1 h1
   exact TD p2 b o k k2 xs w (hb h0) hx dx hsz
  ·rw [hp2 h1]
   exact KC b o k b2 o2 k2 xs ys w (hb h0) hx (hb2 h1) hy dx dy hl hv hsz
end Z4
end Go.Proofs.YtnmlkobogofadaaGreatDoor
