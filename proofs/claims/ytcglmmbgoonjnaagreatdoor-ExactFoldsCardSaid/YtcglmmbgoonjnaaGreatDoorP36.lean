/- What the proof rests on, part 36. -/
import Derived.Test.YtcglmmbgoonjnaaGreatDoorP35
import Derived.Laws.AppendOwn
namespace Go.Proofs.YtcglmmbgoonjnaaGreatDoor
set_option maxRecDepth 100000
set_option maxHeartbeats 80000000
namespace Rx
open Go.RowKit
def isF (n:Nat) (W:World) (v:Value) (r:Rat):Prop:=if n=0 then v=.agg #[.bool false,.slice none 0 0,.bool false,.slice none 0 0] else Z4.IsR W v r
def sG (W:World) (n:Nat) (r:Rat) (e:Ending) (W':World):Prop:=∃ v,e=.returned v∧isF n W' v r∧Below W.heap.size W W'
def EZ:SV→Bool
 | .e (.a [.bl false,.nils,.bl false,.nils])=>true
 | _=>false
def qP (n:Nat) (v:SV) (fs:List Lf):Bool:=if n=0 then EZ v else nI false (.v 0) v fs
theorem zO {L:List Rat} {lo:Nat} {acc:Nat→Rat} {v:SV} {fs:List Lf} {ρ:Env} {W:World} (h:qP L.length v fs=true) (hf:∀ f∈fs,Lf.on ⟨L,L.length,lo,acc L.length⟩ ρ f W):isF L.length W (v.den ρ) (acc L.length):=by
 unfold qP at h
 unfold isF
 split
 ·rename_i hl
  rw [if_pos hl] at h
  unfold EZ at h
  split at h
  ·rfl
  ·cases h
 ·rename_i hl
  rw [if_neg hl] at h
  exact qU (k:=false) h hf
abbrev yT:TypeId:=40
def yP:Pat:=[some (.os 0),none,some (.ptr 3 0),some (.ptr 4 0),some (.oi 2),none,none,none,none,none,none,none,none,none,none,none,none,none,none,none,none,none,none,none,none,none,none]
theorem Tt {L:List Rat} (hlen:L.length≤1000) {c:Nv} {w:World} (h:bG false w w.heap.size c L) (hE:EV w):Calls Tryz.prog 61 #[.slice c.p c.l c.c] w (sG w L.length (aO (-1) L L.length)):=by
 refine qN (k:=false) (fn:=Tryz.f61) (L:=L) (acc:=aO (-1) L) (hint:=fun j=>hc (aK (L.getD j 0) (aO (-1) L j))) (args:=[.e (.s (.os 0))]) (p:=yP) (T:=yT) (le:=[]) (le':=[]) (K:=4) (n:=0) (r:=1) (b:=65)
  (iN:=fun j=>if xUp (-1) (aK (L.getD j 0) (aO (-1) L j)) j then 1356 else 1036) (nb:=fun j=>if xUp (-1) (aK (L.getD j 0) (aO (-1) L j)) j then 1164 else 10) (K1:=fun _=>4) (e:=fun j=>if xUp (-1) (aK (L.getD j 0) (aO (-1) L j)) j then .v 1 else .v 0)
  (t:=qP) (ρ:=ev [c]) Tryz.func61 (by kernel_rfl) hlen (fun j=>zM rfl) hE h (.inl rfl) ?_ ?_ ?_ (fun j hj=>⟨xK,kJ h.fits _ hj⟩) (fun v fs ht ρ' W' hb hf=>⟨_,rfl,zO ht hf,hb⟩)
 ·intro more first R hm h0 h
  exact ⟨by kernel_rfl,by kernel_rfl,fun j=>by cases j <;> kernel_rfl⟩
 ·intro more first R hm h0 j hmt hft u
  obtain ⟨cc,hcc⟩:∃ cc,aK (L.getD j 0) (aO (-1) L j)=cc:=⟨_,rfl⟩
  have h3:=tN (L.getD j 0) (aO (-1) L j)
  simp only [hcc] at h3 ⊢
  clear hcc
  subst hmt
  cases j with
  | zero =>
   obtain rfl:first=true:=by simpa using hft
   show _=true
   kernel_rfl
  | succ j =>
   obtain rfl:first=false:=by simpa using hft
   rcases h3 with rfl | rfl | rfl <;> (show _=true;kernel_rfl)
 ·intro more first R hm h0 h j hmt u
  subst hmt
  cases j <;> kernel_rfl
theorem Tq {L:List Rat} (hlen:L.length≤1000) {c:Nv} {w:World} (h:bG false w w.heap.size c L) (hE:EV w):Calls Tryz.prog 63 #[.slice c.p c.l c.c] w (sG w L.length (aO 1 L L.length)):=by
 refine qN (k:=false) (fn:=Tryz.f63) (L:=L) (acc:=aO 1 L) (hint:=fun j=>hc (aK (L.getD j 0) (aO 1 L j))) (args:=[.e (.s (.os 0))]) (p:=yP) (T:=yT) (le:=[]) (le':=[]) (K:=4) (n:=0) (r:=1) (b:=65)
  (iN:=fun j=>if xUp 1 (aK (L.getD j 0) (aO 1 L j)) j then 1356 else 1036) (nb:=fun j=>if xUp 1 (aK (L.getD j 0) (aO 1 L j)) j then 1164 else 10) (K1:=fun _=>4) (e:=fun j=>if xUp 1 (aK (L.getD j 0) (aO 1 L j)) j then .v 1 else .v 0)
  (t:=qP) (ρ:=ev [c]) Tryz.func63 (by kernel_rfl) hlen (fun j=>zM rfl) hE h (.inl rfl) ?_ ?_ ?_ (fun j hj=>⟨xK,kJ h.fits _ hj⟩) (fun v fs ht ρ' W' hb hf=>⟨_,rfl,zO ht hf,hb⟩)
 ·intro more first R hm h0 h
  exact ⟨by kernel_rfl,by kernel_rfl,fun j=>by cases j <;> kernel_rfl⟩
 ·intro more first R hm h0 j hmt hft u
  obtain ⟨cc,hcc⟩:∃ cc,aK (L.getD j 0) (aO 1 L j)=cc:=⟨_,rfl⟩
  have h3:=tN (L.getD j 0) (aO 1 L j)
  simp only [hcc] at h3 ⊢
  clear hcc
  subst hmt
  cases j with
  | zero =>
   obtain rfl:first=true:=by simpa using hft
   show _=true
   kernel_rfl
  | succ j =>
   obtain rfl:first=false:=by simpa using hft
   rcases h3 with rfl | rfl | rfl <;> (show _=true;kernel_rfl)
 ·intro more first R hm h0 h j hmt u
  subst hmt
  cases j <;> kernel_rfl
def iZ (L:List Rat):Nat→Rat
 | 0=>0
 | j+1=>iZ L j+L.getD j 0
theorem sQ {L:List Rat} (h:∀ i,i<L.length→Fits 4 (L.getD i 0)):∀ j,j≤L.length→Fits (5*j+1) (iZ L j)
 | 0,_=>fits_int (by decide) (by decide)
 | j+1,hj=>(sQ h j (by omega)).plus (h j (by omega)) |>.mono (by omega)
def sE:Nat→RE
 | 0=>.add (.c 0) (.v 1)
 | _+1=>.add (.v 0) (.v 1)
theorem GY {L:List Rat} {j lo:Nat}:(sE j).ev (Rd.β ⟨L,j,lo,iZ L j⟩)=iZ L (j+1):=by cases j <;> rfl
def sP:Pat:=[none,none,some (.ptr 3 0),some (.ptr 4 0),none,none,some (.os 0),some (.oi 1),some (.oi 2),none,none,none,none,none,none,none,none]
theorem UL {L:List Rat} (hlen:L.length≤30) {c:Nv} {w:World} (h:bG true w w.heap.size c L) (hE:EV w):Calls Tryz.prog 64 #[.slice c.p c.l c.c] w (aU w (iZ L L.length)):=by
 refine qN (k:=true) (fn:=Tryz.f64) (L:=L) (acc:=iZ L) (hint:=fun j=>{}) (args:=[.e (.s (.os 0))]) (p:=sP) (T:=xT) (le:=[.le 1 0]) (le':=[.le 193 0]) (K:=160) (n:=193) (r:=1) (b:=65)
  (iN:=fun _=>588) (nb:=fun _=>460) (K1:=fun j=>match j with | 0=>6 | _+1=>165) (e:=sE)
  (t:=fun j=>nI true (if j=0 then .c 0 else .v 0)) (ρ:=ev [c]) Tryz.func64 (by kernel_rfl) (by omega) (fun j=>fQ _) hE h (.inr ⟨rfl,by simp⟩) ?_ ?_ ?_ (fun j hj=>⟨GY,(sQ h.fits _ hj).mono (by omega)⟩) (fun v fs ht ρ' W' hb hf=>⟨_,rfl,CS (k:=true) rfl (qU ht hf),hb⟩)
 ·intro more first R hm h0 h
  exact ⟨by kernel_rfl,by kernel_rfl,fun j=>by cases j <;> kernel_rfl⟩
 ·intro more first R hm h0 j hmt hft u
  subst hmt
  cases j <;> kernel_rfl
 ·intro more first R hm h0 h j hmt u
  subst hmt
  cases j <;> kernel_rfl
def tP:Pat:=[some (.os 0),none,some (.ptr 3 0),some (.ptr 4 0),some (.oi 2),none,none,none,none,none,none,none,none,none,none,none,none,none]
theorem TM {L:List Rat} (hlen:L.length≤30) {c:Nv} {w:World} (h:bG false w w.heap.size c L) (hE:EV w):Calls Tryz.prog 65 #[.slice c.p c.l c.c] w (sG w L.length (iZ L L.length)):=by
 refine qN (k:=false) (fn:=Tryz.f65) (L:=L) (acc:=iZ L) (hint:=fun j=>{}) (args:=[.e (.s (.os 0))]) (p:=tP) (T:=yT) (le:=[]) (le':=[]) (K:=160) (n:=0) (r:=1) (b:=65)
  (iN:=fun _=>780) (nb:=fun _=>588) (K1:=fun j=>match j with | 0=>6 | _+1=>165) (e:=sE)
  (t:=qP) (ρ:=ev [c]) Tryz.func65 (by kernel_rfl) (by omega) (fun j=>fQ _) hE h (.inl rfl) ?_ ?_ ?_ (fun j hj=>⟨GY,(sQ h.fits _ hj).mono (by omega)⟩) (fun v fs ht ρ' W' hb hf=>⟨_,rfl,zO ht hf,hb⟩)
 ·intro more first R hm h0 h
  exact ⟨by kernel_rfl,by kernel_rfl,fun j=>by cases j <;> kernel_rfl⟩
 ·intro more first R hm h0 j hmt hft u
  subst hmt
  cases j <;> kernel_rfl
 ·intro more first R hm h0 h j hmt u
  subst hmt
  cases j <;> kernel_rfl
end Rx
namespace Rx
open Go.RowKit Go.Sort
theorem FZ:∀ {A:List Value} (n:Nat),aJ A=true→aJ (A.drop n)=true
 | A,0,h=>by rwa [List.drop_zero]
 | [],n+1,_=>by simp [aJ]
 | a :: r,n+1,h=>FZ n (rC h)
theorem Ak:∀ {A:List Value} {b:Value} {r:List Value},aJ A=true→aJ (b :: r)=true→isU b=false→aJ (A ++ b :: r)=true
 | [],b,r,_,h,_=>h
 | [a],b,r,ha,h,hb=>by
  show aJ (a :: b :: r)=true
  simp only [aJ,hb,Bool.and_false,Bool.not_false,Bool.true_and,h,Bool.and_true]
  simpa [aJ] using ha
 | a :: c :: A,b,r,ha,h,hb=>by
  have ih:=Ak (A:=c :: A) (rC ha) h hb
  show aJ (a :: c :: (A ++ b :: r))=true
  simp only [aJ,Bool.and_eq_true] at ha
  unfold aJ
  rw [ha.1.1,ha.1.2]
  simpa using ih
theorem Ap:∀ {A:List Value} (n:Nat),aJ A=true→aJ (A.take n)=true
 | A,0,_=>by simp [aJ]
 | [],n+1,_=>by simp [aJ]
 | [a],n+1,h=>by simpa using h
 | a :: b :: r,n+1,h=>by
  have ih:=Ap (A:=b :: r) n (rC h)
  simp only [aJ,Bool.and_eq_true] at h
  cases n with
  | zero=>simpa [aJ] using h.1.2
  | succ n =>
   rw [List.take_succ_cons] at ih ⊢
   rw [List.take_succ_cons]
   unfold aJ
   rw [h.1.1,h.1.2]
   simpa using ih
theorem RI {k:Bool} {x y:Nv} {r:List Value} (h:aJ r=true):aJ (aG k x y ++ r)=true:=by
 cases k <;> cases r <;> simp_all [aG,aJ,isU,Go.Proofs.YtcglmmbgoonjnaaGreatDoor.isI]
theorem F5 {A:List Value} {k:Bool} {x y:Nv} {r:List Value} (hA:aJ A=true) (h:aJ r=true):aJ (A ++ (aG k x y ++ r))=true:=by
 have h1:=RI (k:=k) (x:=x) (y:=y) h
 cases k
 ·exact Ak hA h1 rfl
 ·exact Ak hA h1 rfl
theorem F6:∀ {l:List Value},(∀ i x y,l[i]? = some x→l[i+1]? = some y→(isU x && isU y)=false)→(∀ x∈l,Go.Proofs.YtcglmmbgoonjnaaGreatDoor.isI x=false)→aJ l=true
 | [],_,_=>rfl
 | [a],_,h=>by simp [aJ,h a (by simp)]
 | a :: b :: r,h1,h2=>by
  have ih:=F6 (l:=b :: r) (fun i x y hx hy=>h1 (i+1) x y (by simpa using hx) (by simpa using hy)) fun x hx=>h2 x (List.mem_cons_of_mem _ hx)
  unfold aJ
  rw [h1 0 a b rfl rfl,h2 a (by simp),ih]
  rfl
def zv:Nv:=⟨false,0,none,0,0,.empty,0⟩
theorem RJ (k:Bool) (n:Nat):aJ (Builtin.zeroCells (aG k zv zv).toArray n).toList=true:=by
 have hg:∀ i v,(Builtin.zeroCells (aG k zv zv).toArray n).toList[i]? = some v→v=(aG k zv zv).toArray[i % zK k]!:=fun i v h=>by
  unfold Builtin.zeroCells at h
  rw [Array.toList_map,List.getElem?_map] at h
  obtain ⟨j,hj,rfl⟩:=Option.map_eq_some_iff.1 h
  rw [Array.toList_range,List.getElem?_range (by
   have:=(List.getElem?_eq_some_iff.1 hj).1
   simpa using this)] at hj
  cases hj
  cases k <;> rfl
 refine F6 (fun i x y hx hy=>?_) fun x hx=>?_
 ·rw [hg _ _ hx,hg _ _ hy]
  cases k
  ·have h4:i % 4=0∨i % 4=1∨i % 4=2∨i % 4=3:=by omega
   simp only [zK,Bool.false_eq_true,if_false,Nat.add_mod i 1 4]
   rcases h4 with h | h | h | h <;> rw [h] <;> rfl
  ·have h4:i % 5=0∨i % 5=1∨i % 5=2∨i % 5=3∨i % 5=4:=by omega
   simp only [zK,if_true,Nat.add_mod i 1 5]
   rcases h4 with h | h | h | h | h <;> rw [h] <;> rfl
 ·obtain ⟨i,hi⟩:=List.mem_iff_getElem?.1 hx
  rw [hg _ _ hi]
  cases k
  ·have h4:i % 4=0∨i % 4=1∨i % 4=2∨i % 4=3:=by omega
   simp only [zK,Bool.false_eq_true,if_false]
   rcases h4 with h | h | h | h <;> rw [h] <;> rfl
  ·have h4:i % 5=0∨i % 5=1∨i % 5=2∨i % 5=3∨i % 5=4:=by omega
   simp only [zK,if_true]
   rcases h4 with h | h | h | h | h <;> rw [h] <;> rfl
structure Grew (W W':World) (g:Option Nat):Prop where
 sz:W.heap.size≤W'.heap.size
 far:∀ b,b<W.heap.size→some b≠g→W'.heap[b]? = W.heap[b]?
 ok:∀ b,g=some b→∃ T vs,Go.Proofs.YtcglmmbgoonjnaaGreatDoor.Bx W b T vs∧aJ vs=true
theorem Grew.cell {W W':World} {g:Option Nat} (h:Grew W W' g) {b o:Nat} (hb:b<W.heap.size) (hne:some b≠g):W'.cell? ⟨b,o,none⟩=W.cell? ⟨b,o,none⟩:=World.cell?_of_block (w:=W) (h.far b hb hne)
theorem Grew.mag {W W':World} {g:Option Nat} (h:Grew W W' g) {c d:Value} {n:Nat} (hm:ah W c d n):ah W' c d n:=by
 rcases hm with hm | ⟨b,o,k,xs,k1,k2,k3,k4,k5,k6,k7,k8,k9⟩
 ·exact .inl hm
 ·have hne:some b≠g:=fun e=>by
   obtain ⟨T,vs,hb,ok⟩:=h.ok b e.symm
   have h0:=k9 0 (by omega)
   have h1:=k9 1 (by omega)
   rw [Nat.add_zero,hb.cell] at h0
   rw [hb.cell] at h1
   exact Aq ok h0 h1
  exact .inr ⟨b,o,k,xs,k1,k2,Nat.lt_of_lt_of_le k3 h.sz,k4,k5,k6,k7,k8,fun j hj=>(h.cell k3 hne).trans (k9 j hj)⟩
theorem Grew.z {W W':World} {g:Option Nat} (h:Grew W W' g) {v:Value} {z:Int} (hm:Z4.IsZ W v z):Z4.IsZ W' v z:=by
 obtain ⟨p,l,k,xs,e,hL,hx⟩:=hm
 refine ⟨p,l,k,xs,e,?_,hx⟩
 rcases hL with hL | ⟨b,o,k',k1,k2,k3,k4,k5⟩
 ·exact .inl hL
 ·refine .inr ⟨b,o,k',k1,k2,Nat.lt_of_lt_of_le k3 h.sz,k4,fun j hj=>?_⟩
  have hne:some b≠g:=fun e=>by
   obtain ⟨T,vs,hb,ok⟩:=h.ok b e.symm
   have h0:=k5 j hj
   rw [hb.cell] at h0
   exact Am ok h0
  exact (h.cell k3 hne).trans (k5 j hj)
theorem Grew.is {W W':World} {g:Option Nat} (h:Grew W W' g) {k:Bool} {v:Value} {r:Rat} (hm:isK k W v r):isK k W' v r:=by
 cases k
 ·obtain ⟨t,p,l,k,p',l',k',e,h1,h2⟩:=hm
  exact ⟨t,p,l,k,p',l',k',e,h.z h1,h.z h2⟩
 ·obtain ⟨c,d,e,f,hv,h1,h2⟩:=hm
  exact ⟨c,d,e,f,hv,h.mag h1,h.mag h2⟩
def tyK (k:Bool):TypeId:=if k then 31 else 40
def bV (k:Bool) (W:World) (B:Nat) (v:Value) (L:List Rat):Prop:=
 (v=.slice none 0 0∧L=[])∨∃ g cap cur,v=.slice (some ⟨g,0,none⟩) L.length cap∧B≤g∧Go.Proofs.YtcglmmbgoonjnaaGreatDoor.Bx W g (tyK k) cur∧L.length≤cap∧cur.length=cap*zK k∧aJ cur=true ∧
  ∀ i,i<L.length→∃ x y,(∀ j u,(aG k x y)[j]? = some u→cur[i*zK k+j]? = some u)∧isK k W (.agg (aG k x y).toArray) (L.getD i 0)∧Fits 4 (L.getD i 0)
theorem qm (k:Bool) (x y:Nv):(aG k x y).length=zK k:=by cases k <;> rfl
theorem bV.grew {k:Bool} {W W':World} {B:Nat} {v:Value} {L:List Rat} {g:Option Nat} (h:bV k W B v L) (hg:Grew W W' g) (hne:∀ b,v.ownBlock=some b→some b≠g):bV k W' B v L:=by
 rcases h with h | ⟨b,cap,cur,rfl,h1,h2,h3,h4,h5,h6⟩
 ·exact .inl h
 ·refine .inr ⟨b,cap,cur,rfl,h1,(hg.far b h2.lt (hne b rfl)).trans h2,h3,h4,h5,fun i hi=>?_⟩
  obtain ⟨x,y,h7,h8,h9⟩:=h6 i hi
  exact ⟨x,y,h7,hg.is h8,h9⟩
theorem pG {W W':World} (h:Below W.heap.size W W'):Grew W W' none:=⟨h.size,fun b hb _=>h.block b hb,fun b h=>by cases h⟩
theorem U7 (k:Bool):∃ i z,(Tryz.prog).info? (tyK k)=some i∧i.zero=some z∧i.size=zK k∧z.cells=(aG k zv zv).toArray∧i.bytes≤1000:=by
 have h:((Tryz.prog).info? (tyK k)).any (fun i=>decide (i.bytes≤1000) && decide (i.size=zK k))=true:=by cases k <;> kernel_rfl
 have h2:(((Tryz.prog).info? (tyK k)).bind (·.zero)).map (·.cells)=some (aG k zv zv).toArray:=by cases k <;> kernel_rfl
 obtain ⟨z0,hz0,hz⟩:=Option.map_eq_some_iff.1 h2
 obtain ⟨i,hi,hiz⟩:=Option.bind_eq_some_iff.1 hz0
 rw [hi] at h
 simp only [Option.any_some,Bool.and_eq_true,decide_eq_true_eq] at h
 exact ⟨i,z0,hi,hiz,h.2,hz,h.1⟩
theorem EH {L:List Rat} {r:Rat} {i:Nat} (hi:i<L.length):(L ++ [r]).getD i 0=L.getD i 0:=by
 simp [List.getD,List.getElem?_append_left hi]
theorem EI {L:List Rat} {r:Rat}:(L ++ [r]).getD L.length 0=r:=by simp [List.getD]
theorem GR {k:Bool} {W W':World} {L:List Rat} {r:Rat} {x y:Nv} {cur rest:List Value} {g:Option Nat} (hg:Grew W W' g) (hlen:L.length*zK k≤cur.length) (hr:isK k W (.agg (aG k x y).toArray) r) (hf:Fits 4 r)
  (h:∀ i,i<L.length→∃ x y,(∀ j u,(aG k x y)[j]? = some u→cur[i*zK k+j]? = some u)∧isK k W (.agg (aG k x y).toArray) (L.getD i 0)∧Fits 4 (L.getD i 0)) :
  ∀ i,i<(L ++ [r]).length→∃ x' y',(∀ j u,(aG k x' y')[j]? = some u→(cur.take (L.length*zK k) ++ (aG k x y ++ rest))[i*zK k+j]? = some u)∧isK k W' (.agg (aG k x' y').toArray) ((L ++ [r]).getD i 0)∧Fits 4 ((L ++ [r]).getD i 0):=by
 intro i hi
 have htl:(cur.take (L.length*zK k)).length=L.length*zK k:=by rw [List.length_take];omega
 rcases Nat.lt_or_ge i L.length with hlt | hge
 ·obtain ⟨x',y',h1,h2,h3⟩:=h i hlt
  refine ⟨x',y',fun j u hj=>?_,by rw [EH hlt];exact hg.is h2,by rw [EH hlt];exact h3⟩
  have hjl:j<zK k:=by rw [← qm k x' y'];exact (List.getElem?_eq_some_iff.1 hj).1
  have hlt2:i*zK k+j<L.length*zK k:=by
   have:=Nat.mul_le_mul_right (zK k) (show i+1≤L.length by omega)
   rw [Nat.add_mul,Nat.one_mul] at this
   omega
  rw [List.getElem?_append_left (by rw [htl];exact hlt2),List.getElem?_take_of_lt hlt2]
  exact h1 j u hj
 ·obtain rfl:i=L.length:=by
   rw [List.length_append,List.length_singleton] at hi
   omega
  refine ⟨x,y,fun j u hj=>?_,by rw [EI];exact hg.is hr,by rw [EI];exact hf⟩
  have hjl:j<(aG k x y).length:=(List.getElem?_eq_some_iff.1 hj).1
  rw [List.getElem?_append_right (by rw [htl];omega),htl,Nat.add_sub_cancel_left,List.getElem?_append_left hjl]
  exact hj
theorem FY {k:Bool} {w:World} {B cap:Nat} {L:List Rat} {r:Rat} {x y:Nv} {cur:List Value} (hB:B≤w.heap.size) (hlen:L.length*zK k≤cur.length) (hok:aJ cur=true) (hr:isK k w (.agg (aG k x y).toArray) r) (hf:Fits 4 r) (hcap:L.length+1≤cap)
  (h:∀ i,i<L.length→∃ x y,(∀ j u,(aG k x y)[j]? = some u→cur[i*zK k+j]? = some u)∧isK k w (.agg (aG k x y).toArray) (L.getD i 0)∧Fits 4 (L.getD i 0)) {arr:Array Value} (harr:arr=(cur.take (L.length*zK k) ++ (aG k x y ++ (Builtin.zeroCells (aG k zv zv).toArray (cap - (L.length+1))).toList)).toArray) (g:Option Nat)
  (hg:∀ b,g=some b→∃ T vs,Go.Proofs.YtcglmmbgoonjnaaGreatDoor.Bx w b T vs∧aJ vs=true) :
  bV k (w.drew.alloc (.cells arr (tyK k))) B (.slice (some ⟨w.heap.size,0,none⟩) (L.length+1) cap) (L ++ [r])∧Grew w (w.drew.alloc (.cells arr (tyK k))) g∧Below B w (w.drew.alloc (.cells arr (tyK k))):=by
 subst harr
 have hb:Below B w (w.drew.alloc (.cells (cur.take (L.length*zK k) ++ (aG k x y ++ (Builtin.zeroCells (aG k zv zv).toArray (cap - (L.length+1))).toList)).toArray (tyK k))):=((Below.refl B w).drew).alloc (by simpa using hB) _
 have hbl:=((Below.refl w.heap.size w).drew).alloc (Nat.le_refl _) (.cells (cur.take (L.length*zK k) ++ (aG k x y ++ (Builtin.zeroCells (aG k zv zv).toArray (cap - (L.length+1))).toList)).toArray (tyK k))
 have hgr:Grew w (w.drew.alloc (.cells (cur.take (L.length*zK k) ++ (aG k x y ++ (Builtin.zeroCells (aG k zv zv).toArray (cap - (L.length+1))).toList)).toArray (tyK k))) g:=⟨hbl.size,fun b hb _=>hbl.block b hb,hg⟩
 refine ⟨.inr ⟨w.heap.size,cap,_,by simp,hB,Go.Proofs.YtcglmmbgoonjnaaGreatDoor.Bx.new w.drew _ _,by simp;omega,?_,F5 (Ap _ hok) (RJ k _),GR hgr hlen hr hf h⟩,hgr,hb⟩
 have hz:(Builtin.zeroCells (aG k zv zv).toArray (cap - (L.length+1))).toList.length=(cap - (L.length+1))*zK k:=by
  rw [Array.length_toList,size_zeroCells,List.size_toArray,qm]
 rw [List.length_append,List.length_append,List.length_take,hz,qm,Nat.min_eq_left hlen]
 have:cap*zK k=(L.length+1+(cap - (L.length+1)))*zK k:=by congr 1;omega
 rw [this,Nat.add_mul,Nat.add_mul,Nat.one_mul,Nat.add_assoc]
theorem JI {k:Bool} {t ty:TypeId} (ht:(Tryz.prog).underlying t=some (.slice (tyK k))) {w:World} {B c:Nat} {v:Value} {L:List Rat} {r:Rat} {x y:Nv} {a:Addr} (hown:bV k w B v L) (hB:B≤w.heap.size) (hn:∀ j u,(aG k x y)[j]? = some u→w.cell? (a.add j)=some u) (hr:isK k w (.agg (aG k x y).toArray) r) (hf:Fits 4 r) (hL:L.length<1000) :
  ∃ v' w',(Builtin.append_ #[t,t] ty #[v,.slice (some a) 1 c]).run Tryz.prog w=.ok v' w'∧bV k w' B v' (L ++ [r])∧Grew w w' v.ownBlock∧Below B w w'∧(v'.ownBlock=v.ownBlock∨v'.ownBlock=some w.heap.size):=by
 obtain ⟨i,z,hi,hz,hsz,hzc,hby⟩:=U7 k
 have hl:(aG k x y).length=1*i.size:=by rw [qm,hsz,Nat.one_mul]
 rcases hown with ⟨rfl,rfl⟩ | ⟨g,cap,cur,rfl,hbg,hg,hnc,hcl,hok,hrows⟩
 ·have hrun:=run_append_nil (P:=Tryz.prog) w t ty (tyK k) i z ht hi hz a 1 c (aG k x y) hl hn (by omega) (by omega) (by omega)
  obtain ⟨h1,h2,h3⟩:=FY (k:=k) (w:=w) (B:=B) (cap:=grownCap w 1 0 (tyK k)) (L:=[]) (r:=r) (x:=x) (y:=y) (cur:=[]) hB (by simp) rfl hr hf (grownCap_ge w 1 0 _) (fun i hi=>by simp at hi) (arr:=(aG k x y).toArray ++ Builtin.zeroCells z.cells (grownCap w 1 0 (tyK k) - 1)) (by rw [hzc];simp) none (fun b h=>by cases h)
  exact ⟨_,_,hrun,h1,h2,h3,.inr rfl⟩
 ·by_cases hroom:L.length+1≤cap
  ·have hfit:L.length*i.size+(aG k x y).length≤cur.toArray.size:=by
    rw [hl,List.size_toArray,hcl,← Nat.add_mul,hsz];exact Nat.mul_le_mul_right _ hroom
   have h1c:∀ u∈aG k x y,u.oneCell' = true:=by cases k <;> simp [aG,Value.oneCell']
   have hrun:=run_append_room (P:=Tryz.prog) w t ty (tyK k) i ht hi g L.length cap cur.toArray hg a 1 c (aG k x y) hl hn h1c hroom hfit
   have hlen:L.length*zK k≤cur.length:=by rw [hcl];exact Nat.mul_le_mul_right _ hnc
   have hgr:Grew w (w.setRow g (cur.toArray.toList.take (L.length*i.size) ++ aG k x y ++ cur.toArray.toList.drop (L.length*i.size+(aG k x y).length)).toArray) (some g):=
    ⟨by simp [World.setRow],fun b _ hne=>setRow_other w g b _ (fun e=>hne (by rw [e])),fun b hb=>by cases hb;exact ⟨_,_,hg,hok⟩⟩
   refine ⟨_,_,hrun,.inr ⟨g,cap,cur.take (L.length*zK k) ++ (aG k x y ++ cur.drop (L.length*zK k+zK k)),by simp,hbg,?_,by simpa using hroom,?_,F5 (Ap _ hok) (FZ _ hok),?_⟩,hgr,⟨rfl,rfl,rfl,by simp [World.setRow],fun b hb=>setRow_other w g b _ (by omega)⟩,.inl rfl⟩
   ·have:=setRow_heap w g cur.toArray (cur.toArray.toList.take (L.length*i.size) ++ aG k x y ++ cur.toArray.toList.drop (L.length*i.size+(aG k x y).length)).toArray _ _ hg
    rw [hsz,qm,List.append_assoc] at this ⊢
    exact this
   ·rw [List.length_append,List.length_append,List.length_take,List.length_drop,qm,Nat.min_eq_left hlen]
    have:L.length*zK k+zK k≤cur.length:=by
     rw [hcl]
     have:=Nat.mul_le_mul_right (zK k) hroom
     rwa [Nat.add_mul,Nat.one_mul] at this
    omega
   ·exact GR hgr hlen hr hf hrows
  ·have hlen:L.length*zK k≤cur.length:=by rw [hcl];exact Nat.mul_le_mul_right _ hnc
   have holds:∀ j u,(cur.take (L.length*zK k))[j]? = some u→w.cell? ((⟨g,0,none⟩:Addr).add j)=some u:=fun j u hj=>by
    have h2:cur[j]? = some u:=by
     rw [List.getElem?_take] at hj
     split at hj
     ·exact hj
     ·cases hj
    rw [Addr.add_lit,Nat.zero_add,hg.cell]
    exact h2
   have hrun:=run_append_grow (P:=Tryz.prog) w t ty (tyK k) i z ht hi hz ⟨g,0,none⟩ L.length cap (cur.take (L.length*zK k)) (by rw [List.length_take,hsz];omega) holds a 1 c (aG k x y) hl hn (by omega) (by omega) (growslice_fits (by omega) (by
    have:=Nat.mul_le_mul (show L.length+1≤1000 by omega) hby
    omega))
   obtain ⟨h1,h2,h3⟩:=FY (k:=k) (w:=w) (B:=B) (cap:=grownCap w (L.length+1) cap (tyK k)) (L:=L) (r:=r) (x:=x) (y:=y) (cur:=cur) hB hlen hok hr hf (grownCap_ge w _ _ _) hrows (arr:=(cur.take (L.length*zK k)).toArray ++ (aG k x y).toArray ++ Builtin.zeroCells z.cells (grownCap w (L.length+1) cap (tyK k) - (L.length+1))) (by rw [hzc];simp) (some g) (fun b hb=>by cases hb;exact ⟨_,_,hg,hok⟩)
   exact ⟨_,_,hrun,h1,h2,h3,.inr rfl⟩
end Rx
namespace Rx
open Go.RowKit Go.Sort
def vX (ρ:Env):Pat→(Nat→Value)→Nat→Prop
 | [],_,_=>True
 | none :: p,u,i=>vX ρ p u (i+1)
 | some c :: p,u,i=>u i=c.den ρ∧vX ρ p u (i+1)
theorem AP {ρ:Env} {u:Nat→Value}:∀ {p:Pat} {i:Nat},vX ρ p u i→∀ t,t<p.length→u (i+t)=((bH p u i).getD t .und).den ρ
 | none :: p,i,_,0,_=>rfl
 | some c :: p,i,h,0,_=>h.1
 | none :: p,i,h,t+1,ht=>by
  have:=AP (p:=p) (i:=i+1) h t (by simpa using ht)
  rw [show i+(t+1)=i+1+t by omega]
  exact this
 | some c :: p,i,h,t+1,ht=>by
  have:=AP (p:=p) (i:=i+1) h.2 t (by simpa using ht)
  rw [show i+(t+1)=i+1+t by omega]
  exact this
theorem GZ {S:Sys} {p:Pat} {fs:List S.F} {base:Nat} {W:World} {ρ:Env} {a:Act} (hl:a.tmps.size=p.length) (hd:a.defers=[]) (hp:vX ρ p (fun t=>a.tmps.getD t undef) 0) (hf:∀ f∈fs,S.on ρ f W) :
  State.Says (S:=S) ⟨bH p (fun t=>a.tmps.getD t undef) 0,[],fs,base⟩ W ρ a W:=by
 refine ⟨by rw [hl];exact (qX _ _ _).symm,hd,fun t=>?_,Below.refl _ _,fun k T cs h=>by simp [lk] at h,fun k k' x x' h=>by simp [lk] at h,hf⟩
 rcases Nat.lt_or_ge t p.length with ht | ht
 ·have:=AP hp t ht
  rwa [Nat.zero_add] at this
 ·have h1:a.tmps.size≤t:=by omega
  have h2:(bH p (fun t=>a.tmps.getD t undef) 0)[t]? = none:=List.getElem?_eq_none (by rw [qX];exact ht)
  simp only [List.getD,h2,Option.getD_none,SV.den]
  simp [h1]
def gP:Pat:=[some (.os 0),none,none,none,some (.os 2),some (.os 3),some (.oi 1),none,none,none,none,none,none,none,none,none,none,none,none,none,none,none,none,none,none,none,none,none,none,none,none,none,none]
def gQ:Pat:=[some (.os 0),none,none,none,some (.os 2),some (.os 3),some (.oi 1),some (.ptr 4 0),some (.ptr 5 0),none,none,none,none,none,none,none,none,none,none,none,none,none,none,none,none,none,none,none,none,none,none,none,none]
def gM:Nat→Option Nat
 | 4=>some 772
 | 5=>some 836
 | 10=>some 516
 | 11=>some 517
 | 12=>some 518
 | 13=>some 519
 | n=>some n
def gB:List (Nat×TypeId×List Cell):=[(4,tyK true,aI 10),(5,tyK false,aW 12)]
def bkS:Code→Code
 | .block _ c=>c
 | c=>c
def liB (fn:Func):Code:=lpS (tlS (hdS (tlS (tlS (tlS (fn.body.getD .skip))))))
def Fb (fn:Func):Code:=hdS (liB fn)
def Fe (fn:Func):Code:=hdS (bkS (hdS (tlS (liB fn))))
def jF (fn:Func):Code:=tlS (bkS (hdS (tlS (liB fn))))
def zY (fn:Func):Code:=tlS (tlS (liB fn))
section
variable {more first:Bool} {R:Rd} {hm:more=decide (R.j<R.L.length)} {h0:first=decide (R.j=0)}
def cG (hm:more=decide (R.j<R.L.length)):List (Con (SL more R hm)):=[Aa hm (uh R.β)]
theorem jR:∀ c∈cG hm,c.Ok Tryz.prog (SL more R hm) EV:=fun c hc=>by
 obtain rfl:=List.mem_singleton.1 hc
 exact Ac KG
theorem OI (hmt:more=true) (u:Nat→Value):okR (S:=SL more R hm) kR gQ gB gM [.f (.q 516 (.v 1) 4),.f (.r 518 (.v 1) 4)]
  (lN Tryz.prog (SL more R hm) (HLs more first R hm h0) (cG hm) [Fb Tryz.f59,Fe Tryz.f59] ⟨bH gP u 0,[],[.h 0,.ix 1],4⟩)=true:=by
 subst hmt
 kernel_rfl
end
theorem IB {k:Bool} {ops:Array Oper} {rest:List Oper} {o:Oper} {a:Act} {Q:Exit→Act→World→Prop} {w:World} (hgd:o.guard=none) (s x:Operand) (t:TypeId) (ho:o.op=.call { callee:=.builtin .append,args:=#[s,x],argTypes:=#[t,t] }) (ht:(Tryz.prog).underlying t=some (.slice (tyK k)))
  {B c:Nat} {v:Value} {L:List Rat} {r:Rat} {y z:Nv} {ad:Addr} (hs:a.eval s=v) (hx:a.eval x=.slice (some ad) 1 c) (hown:bV k w B v L) (hB:B≤w.heap.size) (hn:∀ j u,(aG k y z)[j]? = some u→w.cell? (ad.add j)=some u) (hr:isK k w (.agg (aG k y z).toArray) r) (hf:Fits 4 r) (hL:L.length<1000)
  (h:∀ v' w',bV k w' B v' (L ++ [r])→Grew w w' v.ownBlock→Below B w w'→(v'.ownBlock=v.ownBlock∨v'.ownBlock=some w.heap.size)→wpList Tryz.prog ops Q rest (a.put o.dst v') w'):wpList Tryz.prog ops Q (o :: rest) a w:=by
 refine wpList_plain hgd fun K hK=>?_
 obtain ⟨v',w',hrun,h1,h2,h3,h4⟩:=JI (ty:=o.type) ht hown hB hn hr hf hL (c:=c)
 unfold Oper.wp execOp
 simp only [ho,resolve,invoke,builtin,Sem.run_bind,Sem.run_pure,Result.andThen_ok,List.map_toArray,List.map_cons,List.map_nil,hs,hx,hrun]
 exact hK _ _ (h v' w' h1 h2 h3 h4)
end Rx
namespace Rx
open Go.RowKit Go.Sort
theorem kL (W:World) (o:Obj):Below W.heap.size W (W.alloc o):=(Below.refl _ W).alloc (Nat.le_refl _) o
theorem Gf {k:Bool} {W:World} {B:Nat} {v:Value} {L:List Rat} (h:bV k W B v L) (o:Obj):bV k (W.alloc o) B v L:=h.grew (pG (kL W o)) (fun b _ e=>by cases e)
theorem GL (W:World) (T:TypeId) (vs:List Value) (j:Nat) (u:Value) (h:vs[j]? = some u):(W.alloc (.cells vs.toArray T)).cell? ((⟨W.heap.size,0,none⟩:Addr).add j)=some u:=by
 rw [Addr.add_lit,Nat.zero_add,(Go.Proofs.YtcglmmbgoonjnaaGreatDoor.Bx.new W T vs).cell]
 exact h
theorem rD {k:Bool} {W:World} {B:Nat} {v:Value} {L:List Rat} (h:bV k W B v L) (g:Nat) (hg:v.ownBlock=some g):∃ T vs,Go.Proofs.YtcglmmbgoonjnaaGreatDoor.Bx W g T vs∧aJ vs=true:=by
 rcases h with ⟨rfl,-⟩ | ⟨b,cap,cur,rfl,-,h2,-,-,h5,-⟩
 ·cases hg
 ·cases hg;exact ⟨_,_,h2,h5⟩
theorem EJ {W w1:World} {o:Obj} {g:Option Nat} (h:Grew (W.alloc o) w1 g) (hk:∀ b,g=some b→∃ T vs,Go.Proofs.YtcglmmbgoonjnaaGreatDoor.Bx W b T vs∧aJ vs=true):Grew W w1 g:=by
 have hb:=kL W o
 exact ⟨Nat.le_trans hb.size h.sz,fun b hlt hne=>(h.far b (Nat.lt_of_lt_of_le hlt hb.size) hne).trans (hb.block b hlt),hk⟩
theorem JJ (u:Nat→Value) (va x y:Nv) (b7 B:Nat) (L:List Rat) (r:Rat) (W:World) (Q:Exit→Act→World→Prop)
  (hA:bV true W B (.slice va.p va.l va.c) L) (hB:B≤W.heap.size) (h7:Go.Proofs.YtcglmmbgoonjnaaGreatDoor.Bx W b7 (tyK true) (aG true x y)) (i7:isK true W (.agg (aG true x y).toArray) r) (hf:Fits 4 r) (hL:L.length<1000)
  (hQ:∀ a' v1 w1,bV true w1 B v1 (L ++ [r])→Grew W w1 (Value.slice va.p va.l va.c).ownBlock→Below B W w1→(∀ g,v1.ownBlock=some g→(Value.slice va.p va.l va.c).ownBlock=some g∨W.heap.size≤g)→a'.tmps.size=33→a'.defers=[]→a'.tmps.getD 4 undef=v1→a'.tmps.getD 0 undef=u 0→a'.tmps.getD 5 undef=u 5→a'.tmps.getD 6 undef=u 6→a'.tmps.getD 7 undef=.pointer (some ⟨b7,0,none⟩)→a'.tmps.getD 8 undef=u 8→Q .normal a' w1) :
  (hdS (jF Tryz.f59)).wp Tryz.prog Q { tmps:=#[u 0,u 1,u 2,u 3,.slice va.p va.l va.c,u 5,u 6,.pointer (some ⟨b7,0,none⟩),u 8,u 9,u 10,u 11,u 12,u 13,u 14,u 15,u 16,u 17,u 18,u 19,u 20,u 21,u 22,u 23,u 24,u 25,u 26,u 27,u 28,u 29,u 30,u 31,u 32],defers:=[] } W:=by
 have c0:W.cell? ⟨b7,0,none⟩=some (.bool x.b):=h7.cell 0
 have c1:W.cell? ⟨b7,1,none⟩=some (.int .u64 x.u):=h7.cell 1
 have c2:W.cell? ⟨b7,2,none⟩=some (.slice x.p x.l x.c):=h7.cell 2
 have c3:W.cell? ⟨b7,3,none⟩=some (.int .u64 y.u):=h7.cell 3
 have c4:W.cell? ⟨b7,4,none⟩=some (.slice y.p y.l y.c):=h7.cell 4
 have HA:=hid hA
 have I7:=hid i7
 have HB:=hid hB
 have HQ:=hid hQ
 clear hA h7 i7 hB hQ
 simp only [jF,liB,lpS,bkS,hdS,tlS,Tryz.f59,Option.getD_some]
 go_wp2_with (at_builtin;refine IB (k:=true) (B:=B) (L:=L) (r:=r) (y:=x) (z:=y) rfl (.tmp 23) (.tmp 25) _ rfl (by kernel_rfl) rfl rfl (Gf HA.out _) (Nat.le_trans HB.out (kL W _).size) (GL W _ (aG true x y)) (I7.out.below (kL W _)) hf hL ?_;intro v1 w1 hA1 hG1 hB1 hO1)
 refine HQ.out _ v1 w1 hA1 (EJ hG1 (rD HA.out)) (((Below.refl B W).alloc HB.out _).trans hB1) (fun g hg=>?_) rfl rfl rfl rfl rfl rfl rfl rfl
 rcases hO1 with h | h
 ·exact .inl (h ▸ hg)
 ·rw [h] at hg
  cases hg
  exact .inr (kL W _).size
theorem JH (u:Nat→Value) (va x y:Nv) (b7 B:Nat) (L:List Rat) (r:Rat) (W:World) (Q:Exit→Act→World→Prop)
  (hA:bV false W B (.slice va.p va.l va.c) L) (hB:B≤W.heap.size) (h7:Go.Proofs.YtcglmmbgoonjnaaGreatDoor.Bx W b7 (tyK false) (aG false x y)) (i7:isK false W (.agg (aG false x y).toArray) r) (hf:Fits 4 r) (hL:L.length<1000)
  (hQ:∀ a' v1 w1,bV false w1 B v1 (L ++ [r])→Grew W w1 (Value.slice va.p va.l va.c).ownBlock→Below B W w1→(∀ g,v1.ownBlock=some g→(Value.slice va.p va.l va.c).ownBlock=some g∨W.heap.size≤g)→a'.tmps.size=33→a'.defers=[]→a'.tmps.getD 5 undef=v1→a'.tmps.getD 0 undef=u 0→a'.tmps.getD 4 undef=u 4→a'.tmps.getD 6 undef=u 6→a'.tmps.getD 7 undef=u 7→a'.tmps.getD 8 undef=.pointer (some ⟨b7,0,none⟩)→Q .normal a' w1) :
  (tlS (jF Tryz.f59)).wp Tryz.prog Q { tmps:=#[u 0,u 1,u 2,u 3,u 4,.slice va.p va.l va.c,u 6,u 7,.pointer (some ⟨b7,0,none⟩),u 9,u 10,u 11,u 12,u 13,u 14,u 15,u 16,u 17,u 18,u 19,u 20,u 21,u 22,u 23,u 24,u 25,u 26,u 27,u 28,u 29,u 30,u 31,u 32],defers:=[] } W:=by
 have c0:W.cell? ⟨b7,0,none⟩=some (.bool x.b):=h7.cell 0
 have c1:W.cell? ⟨b7,1,none⟩=some (.slice x.p x.l x.c):=h7.cell 1
 have c2:W.cell? ⟨b7,2,none⟩=some (.bool false):=h7.cell 2
 have c3:W.cell? ⟨b7,3,none⟩=some (.slice y.p y.l y.c):=h7.cell 3
 have HA:=hid hA
 have I7:=hid i7
 have HB:=hid hB
 have HQ:=hid hQ
 clear hA h7 i7 hB hQ
 simp only [jF,liB,lpS,bkS,hdS,tlS,Tryz.f59,Option.getD_some]
 go_wp2_with (at_builtin;refine IB (k:=false) (B:=B) (L:=L) (r:=r) (y:=x) (z:=y) rfl (.tmp 27) (.tmp 29) _ rfl (by kernel_rfl) rfl rfl (Gf HA.out _) (Nat.le_trans HB.out (kL W _).size) (GL W _ (aG false x y)) (I7.out.below (kL W _)) hf hL ?_;intro v1 w1 hA1 hG1 hB1 hO1)
 refine HQ.out _ v1 w1 hA1 (EJ hG1 (rD HA.out)) (((Below.refl B W).alloc HB.out _).trans hB1) (fun g hg=>?_) rfl rfl rfl rfl rfl rfl rfl rfl
 rcases hO1 with h | h
 ·exact .inl (h ▸ hg)
 ·rw [h] at hg
  cases hg
  exact .inr (kL W _).size
end Rx
namespace Rx
open Go.RowKit Go.Sort
theorem Td (tm:List Value) (u:Nat→Value) (hu:∀ i,tm.getD i undef=u i) (n:Nat) (h:tm.length=n):tm=(List.range n).map u:=by
 apply List.ext_getElem
 ·simp [h]
 ·intro i h1 h2
  rw [List.getElem_map,List.getElem_range,← hu i,List.getD_eq_getElem?_getD,List.getElem?_eq_getElem h1]
  rfl
theorem CU (a:Act) (hs:a.tmps.size=33) (hd:a.defers=[]):∃ u:Nat→Value,(∀ i,a.tmps.getD i undef=u i)∧a = { tmps:=#[u 0,u 1,u 2,u 3,u 4,u 5,u 6,u 7,u 8,u 9,u 10,u 11,u 12,u 13,u 14,u 15,u 16,u 17,u 18,u 19,u 20,u 21,u 22,u 23,u 24,u 25,u 26,u 27,u 28,u 29,u 30,u 31,u 32],defers:=[] }:=by
 obtain ⟨⟨tm⟩,df⟩:=a
 simp only at hd
 subst hd
 refine ⟨fun i=>tm.getD i undef,fun i=>by simp [List.getD_eq_getElem?_getD,Array.getD_eq_getD_getElem?],?_⟩
 have h:=Td tm (fun i=>tm.getD i undef) (fun _=>rfl) 33 (by simpa using hs)
 exact congrArg (fun x:List Value=>({ tmps:=⟨x⟩,defers:=[] }:Act)) h
theorem JG (a:Act) (va x y:Nv) (b7 B:Nat) (L:List Rat) (r:Rat) (W:World) (Q:Exit→Act→World→Prop) (hs:a.tmps.size=33) (hd:a.defers=[]) (h4:a.tmps.getD 4 undef=.slice va.p va.l va.c) (hp:a.tmps.getD 7 undef=.pointer (some ⟨b7,0,none⟩))
  (hA:bV true W B (.slice va.p va.l va.c) L) (hB:B≤W.heap.size) (h7:Go.Proofs.YtcglmmbgoonjnaaGreatDoor.Bx W b7 (tyK true) (aG true x y)) (i7:isK true W (.agg (aG true x y).toArray) r) (hf:Fits 4 r) (hL:L.length<1000)
  (hQ:∀ a' v1 w1,bV true w1 B v1 (L ++ [r])→Grew W w1 (Value.slice va.p va.l va.c).ownBlock→Below B W w1→(∀ g,v1.ownBlock=some g→(Value.slice va.p va.l va.c).ownBlock=some g∨W.heap.size≤g)→a'.tmps.size=33→a'.defers=[]→a'.tmps.getD 4 undef=v1→a'.tmps.getD 0 undef=a.tmps.getD 0 undef→a'.tmps.getD 5 undef=a.tmps.getD 5 undef→a'.tmps.getD 6 undef=a.tmps.getD 6 undef→a'.tmps.getD 7 undef=a.tmps.getD 7 undef→a'.tmps.getD 8 undef=a.tmps.getD 8 undef→Q .normal a' w1) :
  (hdS (jF Tryz.f59)).wp Tryz.prog Q a W:=by
 obtain ⟨u,hu,rfl⟩:=CU a hs hd
 have e4:u 4=.slice va.p va.l va.c:=h4
 have e7:u 7=.pointer (some ⟨b7,0,none⟩):=hp
 rw [e4,e7]
 refine JJ u va x y b7 B L r W Q hA hB h7 i7 hf hL fun a' v1 w1 g1 g2 g3 g4 g5 g6 g7 k0 k5 k6 k7 k8=>hQ a' v1 w1 g1 g2 g3 g4 g5 g6 g7 k0 k5 k6 (k7.trans e7.symm) k8
theorem JF (a:Act) (va x y:Nv) (b7 B:Nat) (L:List Rat) (r:Rat) (W:World) (Q:Exit→Act→World→Prop) (hs:a.tmps.size=33) (hd:a.defers=[]) (h4:a.tmps.getD 5 undef=.slice va.p va.l va.c) (hp:a.tmps.getD 8 undef=.pointer (some ⟨b7,0,none⟩))
  (hA:bV false W B (.slice va.p va.l va.c) L) (hB:B≤W.heap.size) (h7:Go.Proofs.YtcglmmbgoonjnaaGreatDoor.Bx W b7 (tyK false) (aG false x y)) (i7:isK false W (.agg (aG false x y).toArray) r) (hf:Fits 4 r) (hL:L.length<1000)
  (hQ:∀ a' v1 w1,bV false w1 B v1 (L ++ [r])→Grew W w1 (Value.slice va.p va.l va.c).ownBlock→Below B W w1→(∀ g,v1.ownBlock=some g→(Value.slice va.p va.l va.c).ownBlock=some g∨W.heap.size≤g)→a'.tmps.size=33→a'.defers=[]→a'.tmps.getD 5 undef=v1→a'.tmps.getD 0 undef=a.tmps.getD 0 undef→a'.tmps.getD 4 undef=a.tmps.getD 4 undef→a'.tmps.getD 6 undef=a.tmps.getD 6 undef→a'.tmps.getD 7 undef=a.tmps.getD 7 undef→a'.tmps.getD 8 undef=a.tmps.getD 8 undef→Q .normal a' w1) :
  (tlS (jF Tryz.f59)).wp Tryz.prog Q a W:=by
 obtain ⟨u,hu,rfl⟩:=CU a hs hd
 have e4:u 5=.slice va.p va.l va.c:=h4
 have e7:u 8=.pointer (some ⟨b7,0,none⟩):=hp
 rw [e4,e7]
 refine JH u va x y b7 B L r W Q hA hB h7 i7 hf hL fun a' v1 w1 g1 g2 g3 g4 g5 g6 g7 k0 k4 k6 k7 k8=>hQ a' v1 w1 g1 g2 g3 g4 g5 g6 g7 k0 k4 k6 k7 (k8.trans e7.symm)
theorem Gh {k:Bool} {W:World} {B:Nat} {v:Value} {L:List Rat} (h:bV k W B v L):∃ c:Nv,v=.slice c.p c.l c.c:=by
 rcases h with ⟨rfl,-⟩ | ⟨b,cap,cur,rfl,-⟩
 ·exact ⟨⟨false,0,none,0,0,.empty,0⟩,rfl⟩
 ·exact ⟨⟨false,0,some ⟨b,0,none⟩,L.length,cap,.empty,0⟩,rfl⟩
theorem Gg {k:Bool} {W:World} {B:Nat} {c:Nv} {L:List Rat} (h:bV k W B (.slice c.p c.l c.c) L):bG k W W.heap.size c L:=by
 rcases h with ⟨h,rfl⟩ | ⟨b,cap,cur,h,-,h2,-,-,-,h6⟩
 ·injection h with h1 h2 h3
  exact ⟨h2,fun i hi=>by simp at hi⟩
 ·injection h with e1 e2 e3
  refine ⟨e2,fun i hi=>?_⟩
  obtain ⟨x,y,h7,h8,h9⟩:=h6 i hi
  exact ⟨b,0,x,y,e1,h2.lt,h2.lt,fun j v hv=>by rw [Nat.zero_add,h2.cell];exact h7 j v hv,h8,h9⟩
theorem fE.wide {W:World} {B B':Nat} {c:Nv} {L:List Rat} (h:fE W B c L) (hB:B≤B'):fE W B' c L:=
 ⟨h.1,fun i hi=>by
  obtain ⟨a,x,y,z,h1,h2,h3⟩:=h.2 i hi
  exact ⟨a,x,y,z,h1,Nat.lt_of_lt_of_le h2 hB,h3⟩⟩
structure LJ (w W:World) (c:Nv) (L:List Rat) (j:Nat) (a:Act):Prop where
 sz:a.tmps.size=33
 df:a.defers=[]
 t0:a.tmps.getD 0 undef=.slice c.p c.l c.c
 t6:a.tmps.getD 6 undef=.int .i64 (j:Int)
 own:∃ va vb:Nv,a.tmps.getD 4 undef=.slice va.p va.l va.c∧a.tmps.getD 5 undef=.slice vb.p vb.l vb.c∧bV true W w.heap.size (.slice va.p va.l va.c) (L.take j)∧bV false W w.heap.size (.slice vb.p vb.l vb.c) (L.take j)∧∀ g,(Value.slice va.p va.l va.c).ownBlock=some g→(Value.slice vb.p vb.l vb.c).ownBlock≠some g
 bel:Below w.heap.size w W
def iM:Nat→Option Nat
 | 1=>some 68
 | n=>some n
def sP0:Pat:=[some (.os 0),none,none,none,some .nils,some .nils,some (.it .i64 0),none,none,none,none,none,none,none,none,none,none,none,none,none,none,none,none,none,none,none,none,none,none,none,none,none,none]
def EM:SV→List Lf→Bool
 | .t [.s (.os 2),.s (.os 3)],_=>true
 | _,_=>false
section
variable {more first:Bool} {R:Rd} {hm:more=decide (R.j<R.L.length)} {h0:first=decide (R.j=0)}
theorem OH (u:Nat→Value):okR (S:=SL more R hm) kR gP [] iM [.nx 68] (exec Tryz.prog (SL more R hm) (HLs more first R hm h0) (cG hm) 1 (zY Tryz.f59) ⟨bH gP u 0,[],[.ix 1],4⟩)=true:=by kernel_rfl
theorem OG (hmt:more=false) (u:Nat→Value):jT EM (oV Tryz.prog (SL more R hm) (HLs more first R hm h0) (cG hm) (liB Tryz.f59) (tlS (tlS (tlS (tlS (Tryz.f59.body.getD .skip))))) Tryz.f59 ⟨bH gP u 0,[],[.h 0,.ix 1],4⟩)=true:=by
 subst hmt
 kernel_rfl
theorem OJ:okR (S:=SL more R hm) kR sP0 [] some [] (lN Tryz.prog (SL more R hm) (HLs more first R hm h0) (cG hm) [hdS (Tryz.f59.body.getD .skip),hdS (tlS (Tryz.f59.body.getD .skip)),hdS (tlS (tlS (Tryz.f59.body.getD .skip))),hdS (hdS (tlS (tlS (tlS (Tryz.f59.body.getD .skip)))))] ⟨[.e (.s (.os 0))] ++ List.replicate (Tryz.f59.ntmps - 1) .und,[],[],1⟩)=true:=by kernel_rfl
end
theorem P6:liB Tryz.f59=(Fb Tryz.f59).seq ((Code.block 1 ((Fe Tryz.f59).seq ((hdS (jF Tryz.f59)).seq (tlS (jF Tryz.f59))))).seq (zY Tryz.f59)):=by kernel_rfl
end Rx
end Go.Proofs.YtcglmmbgoonjnaaGreatDoor
