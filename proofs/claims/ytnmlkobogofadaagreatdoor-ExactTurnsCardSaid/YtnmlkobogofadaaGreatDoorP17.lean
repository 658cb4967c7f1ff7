/- What the proof rests on, part 17: Differences, products and quotients of digits to the base 10000, as the reference reckons them: plain mathematics, no program. Lists of digits to the base 10000 in memory, as the reference keeps them: cut, compared, read as a word. Numbers in memory that the reference writes in place: the world with -/
import Derived.Test.YtnmlkobogofadaaGreatDoorP16
import Derived.Test.YtnmlkobogofadaaGreatDoorP00
import Derived.Laws.OwnMore
import Derived.Sort.Row
import Derived.Sort.Walk0
import Derived.Deep.Draws
import Derived.CellFam
import Derived.Deep.OwnRows
import Derived.Laws.IdiomCopy
import Derived.Lib.RowBridge
namespace Go.Proofs.YtnmlkobogofadaaGreatDoor.Z4
theorem val_take_all {xs:List Nat}:val (xs.take xs.length)=val xs:=by rw [List.take_of_length_le (Nat.le_refl _)]
theorem val_take_getD (xs:List Nat) (k:Nat):val (xs.take (k+1))=val (xs.take k)+B4 ^ k*xs[k]?.getD 0:=by
 by_cases h:k<xs.length
 ·rw [val_take_succ xs k h,List.getElem?_eq_getElem h];rfl
 ·rw [List.take_of_length_le (by omega),List.take_of_length_le (by omega),List.getElem?_eq_none (by omega)];simp
theorem val_set:∀ (xs:List Nat) (p d:Nat),p<xs.length→val (xs.set p d)+B4 ^ p*xs[p]?.getD 0=val xs+B4 ^ p*d
 | [],p,d,h=>by simp at h
 | x :: xs,0,d,_=>by simp [val_cons];omega
 | x :: xs,p+1,d,h=>by
  have ih:=val_set xs p d (by simpa using h)
  simp only [List.set_cons_succ,val_cons,List.getElem?_cons_succ,Nat.pow_succ]
  generalize val (xs.set p d)=S at *
  generalize B4 ^ p=P at *
  generalize xs[p]?.getD 0=e at *
  generalize val xs=V at *
  generalize B4=B at *
  have:=congrArg (B * ·) ih
  grind
theorem Dig.set {xs:List Nat} (h:Dig xs) (p d:Nat) (hd:d<B4):Dig (xs.set p d):=fun e he=>by
 rcases List.mem_or_eq_of_mem_set he with h1 | h1
 ·exact h e h1
 ·omega
theorem Dig.snoc {xs:List Nat} (h:Dig xs) {d:Nat} (hd:d<B4):Dig (xs ++ [d]):=h.append fun e he=>by simp at he;omega
theorem Dig.cons {xs:List Nat} (h:Dig xs) {d:Nat} (hd:d<B4):Dig (d :: xs):=fun e he=>by
 rcases List.mem_cons.1 he with h1 | h1
 ·omega
 ·exact h e h1
structure MinusI (xs ys ds:List Nat) (k c:Nat):Prop where
 len:ds.length=k
 dig:Dig ds
 le:c≤1
 hk:k≤xs.length
 eq:val (xs.take k)+c*B4 ^ k=val ds+val (ys.take k)
theorem MinusI.start (xs ys:List Nat):MinusI xs ys [] 0 0:=⟨rfl,Dig.nil,by omega,by omega,by simp [val]⟩
theorem MinusI.step {xs ys ds:List Nat} {k c x y d c':Nat} (h:MinusI xs ys ds k c) (hlt:k<xs.length) (hx:xs[k]?.getD 0=x) (hy:ys[k]?.getD 0=y) (hd:d<B4) (hc:c'≤1) (e:x+c' * B4=d+y+c) :
  MinusI xs ys (ds ++ [d]) (k+1) c':=by
 refine ⟨by simp [h.len],h.dig.snoc hd,hc,hlt,?_⟩
 have h1:=h.eq
 rw [val_take_getD xs,val_take_getD ys,val_snoc,h.len,Nat.pow_succ,hx,hy]
 generalize B4 ^ k=P at *
 generalize val (xs.take k)=X at *
 generalize val (ys.take k)=Y at *
 generalize val ds=D at *
 generalize B4=B at *
 have:=congrArg (P * ·) e
 grind
theorem MinusI.done {xs ys ds:List Nat} {c:Nat} (h:MinusI xs ys ds xs.length c) (hl:ys.length≤xs.length) (hv:val ys≤val xs):val ds=val xs - val ys:=by
 have h1:=h.eq
 rw [val_take_all,List.take_of_length_le hl] at h1
 have h2:=val_lt h.dig
 rw [h.len] at h2
 have h3:=h.le
 rcases Nat.eq_zero_or_pos c with h0 | h0
 ·subst h0;omega
 ·obtain rfl:c=1:=by omega
  omega
theorem len_of_val {xs ys:List Nat} (dx:Dig xs) (ty:Trimmed ys) (hv:val ys≤val xs):ys.length≤xs.length:=by
 rcases Nat.lt_or_ge xs.length ys.length with h | h
 ·have:=val_lt_of_length dx ty h;omega
 ·exact h
structure ProdI (xs ys pk:List Nat) (i:Nat):Prop where
 len:pk.length=xs.length+ys.length
 dig:Dig pk
 zero:∀ j:Nat,i+ys.length≤j→pk[j]?.getD 0=0
 eq:val pk=val (xs.take i)*val ys
theorem ProdI.start (xs ys:List Nat):ProdI xs ys (List.replicate (xs.length+ys.length) 0) 0:=
 ⟨by simp,fun d hd=>by rw [List.eq_of_mem_replicate hd];exact B4_pos,fun j _=>by rw [List.getElem?_replicate];split <;> rfl,by rw [val_zeros];simp [val]⟩
structure ProdK (xs ys pk:List Nat) (i k c:Nat):Prop where
 len:pk.length=xs.length+ys.length
 dig:Dig pk
 zero:∀ j:Nat,i+ys.length≤j→i+k≤j→pk[j]?.getD 0=0
 lt:c<B4
 le:k≤ys.length∨k=ys.length+1∧c=0
 eq:val pk+c*B4 ^ (i+k)=val (xs.take i)*val ys+B4 ^ i*xs[i]?.getD 0*val (ys.take k)
theorem ProdI.inner {xs ys pk:List Nat} {i:Nat} (h:ProdI xs ys pk i):ProdK xs ys pk i 0 0:=
 ⟨h.len,h.dig,fun j h1 _=>h.zero j h1,B4_pos,.inl (by omega),by rw [h.eq];simp [val]⟩
theorem ProdK.step {xs ys pk:List Nat} {i k c o x y d c':Nat} (h:ProdK xs ys pk i k c) (hi:i<xs.length) (hgo:k<ys.length∨0<c) (ho:pk[i+k]?.getD 0=o) (hx:xs[i]?.getD 0=x) (hy:ys[k]?.getD 0=y) (hyl:y<B4) (hxl:x<B4)
  (hd:d<B4) (e:o+c+x*y=d+c' * B4):i+k<pk.length∧ProdK xs ys (pk.set (i+k) d) i (k+1) c':=by
 have hk:k≤ys.length:=by
  rcases h.le with h1 | h1
  ·exact h1
  ·omega
 have hlt:i+k<pk.length:=by rw [h.len];omega
 have hol:o<B4:=ho ▸ h.dig.getD (i+k)
 have hcl:=h.lt
 refine ⟨hlt,by rw [List.length_set];exact h.len,h.dig.set _ _ hd,fun j h1 h2=>?_,?_,?_,?_⟩
 ·rw [List.getElem?_set_ne (by omega)]
  exact h.zero j h1 (by omega)
 ·have h1:x*y≤(B4 - 1)*(B4 - 1):=Nat.mul_le_mul (by omega) (by omega)
  unfold B4 at *
  omega
 ·rcases Nat.lt_or_ge k ys.length with h1 | h1
  ·exact .inl h1
  ·obtain rfl:k=ys.length:=by omega
   have o0:=h.zero (i+ys.length) (Nat.le_refl _) (Nat.le_refl _)
   rw [ho] at o0
   have y0:y=0:=by rw [← hy,List.getElem?_eq_none (Nat.le_refl _)];rfl
   subst o0 y0
   refine .inr ⟨rfl,?_⟩
   unfold B4 at *
   omega
 ·have h1:=val_set pk (i+k) d hlt
  have h2:=h.eq
  rw [ho] at h1
  rw [val_take_getD ys,hy,hx,show i+(k+1)=i+k+1 by omega,Nat.pow_succ]
  rw [hx] at h2
  have h3:B4 ^ (i+k)=B4 ^ i*B4 ^ k:=Nat.pow_add _ _ _
  rw [h3] at h1 h2 ⊢
  generalize val (pk.set (i+k) d)=S at *
  generalize val pk=V at *
  generalize val (xs.take i)*val ys=X at *
  generalize val (ys.take k)=Y at *
  generalize B4 ^ i=P at *
  generalize B4 ^ k=Q at *
  generalize B4=B at *
  have:=congrArg (P*Q * ·) e
  grind
theorem ProdK.done {xs ys pk:List Nat} {i k:Nat} (h:ProdK xs ys pk i k 0) (hk:ys.length≤k):ProdI xs ys pk (i+1):=by
 refine ⟨h.len,h.dig,fun j hj=>h.zero j (by omega) (by rcases h.le with h1 | h1 <;> omega),?_⟩
 have h1:=h.eq
 rw [List.take_of_length_le hk] at h1
 rw [val_take_getD xs]
 generalize val pk=V at *
 generalize val (xs.take i)=X at *
 generalize val ys=Y at *
 generalize B4 ^ i=P at *
 generalize xs[i]?.getD 0=x at *
 grind
structure OverI (xs qs rs:List Nat) (m i:Nat):Prop where
 len:qs.length=xs.length
 dig:Dig qs
 zero:∀ j:Nat,j<i→qs[j]?.getD 0=0
 hi:i≤xs.length
 digR:Dig rs
 trim:Trimmed rs
 lt:val rs<m
 eq:val (xs.drop i)=val (qs.drop i)*m+val rs
theorem OverI.start (xs:List Nat) {m:Nat} (hm:0<m):OverI xs (List.replicate xs.length 0) [] m xs.length:=
 ⟨by simp,fun d hd=>by rw [List.eq_of_mem_replicate hd];exact B4_pos,fun j _=>by rw [List.getElem?_replicate];split <;> rfl,Nat.le_refl _,Dig.nil,fun h=>absurd rfl h,hm,by
  rw [List.drop_of_length_le (Nat.le_refl _),List.drop_of_length_le (by simp)];simp [val]⟩
theorem drop_set_lt (xs:List Nat) (p d:Nat) (h:p<xs.length):(xs.set p d).drop p=d :: xs.drop (p+1):=by
 apply List.ext_getElem?
 intro j
 cases j with
 | zero=>simp [h]
 | succ j=>simp [List.getElem?_drop,List.getElem?_set_ne (show p≠p+(j+1) by omega)];congr 1;omega
theorem OverI.step {xs qs rs ss:List Nat} {m i x k:Nat} (h:OverI xs qs rs m (i+1)) (hx:xs[i]?.getD 0=x) (hd:Dig ss) (ht:Trimmed ss) (hs:val ss<m) (hk:k<B4) (e:x+B4*val rs=k*m+val ss) :
  OverI xs (qs.set i k) ss m i:=by
 have hi:=h.hi
 have hl:=h.len
 refine ⟨by rw [List.length_set];exact hl,h.dig.set _ _ hk,fun j hj=>by rw [List.getElem?_set_ne (by omega)];exact h.zero j (by omega),by omega,hd,ht,hs,?_⟩
 have h1:=h.eq
 rw [val_drop xs i (by omega),hx,h1,drop_set_lt qs i k (by omega),val_cons]
 generalize val (qs.drop (i+1))=Q at *
 generalize val rs=R at *
 generalize val ss=S at *
 generalize B4=B at *
 grind
theorem guess_le {R M T U P:Nat} (hT:P*T≤R) (hU:M<P*(U+1)):T / (U+1)*M≤R:=by
 have h1:T / (U+1)*M≤T / (U+1)*(P*(U+1)):=Nat.mul_le_mul_left _ (Nat.le_of_lt hU)
 have h2:T / (U+1)*(U+1)≤T:=Nat.div_mul_le_self _ _
 have h3:P*(T / (U+1)*(U+1))≤P*T:=Nat.mul_le_mul_left _ h2
 have h4:T / (U+1)*(P*(U+1))=P*(T / (U+1)*(U+1)):=by grind
 omega
theorem drop_le (xs:List Nat) (f:Nat) (hf:f≤xs.length):B4 ^ f*val (xs.drop f)≤val xs:=by rw [val_split xs f hf];omega
theorem drop_lt {xs:List Nat} (h:Dig xs) (f:Nat) (hf:f≤xs.length):val xs<B4 ^ f*(val (xs.drop f)+1):=by
 have h1:=val_lt (h.take f)
 rw [List.length_take,Nat.min_eq_left hf] at h1
 rw [val_split xs f hf,Nat.mul_add]
 omega
theorem digit_lt {x R m k:Nat} (hx:x<B4) (hR:R<m) (h:k*m≤x+B4*R):k<B4:=by
 rcases Nat.lt_or_ge k B4 with h1 | h1
 ·exact h1
 ·have h2:B4*m≤k*m:=Nat.mul_le_mul_right _ h1
  have h3:B4*(R+1)≤B4*m:=Nat.mul_le_mul_left _ hR
  rw [Nat.mul_add] at h3
  omega
structure IntI (n:Nat) (ds:List Nat) (m:Nat):Prop where
 dig:Dig ds
 trim:m=0→Trimmed ds
 eq:val ds+B4 ^ ds.length*m=n
 few:m*10000 ^ ds.length≤n
theorem IntI.start (n:Nat):IntI n [] n:=⟨Dig.nil,fun _ h=>absurd rfl h,by simp [val],by simp⟩
theorem IntI.step {n m:Nat} {ds:List Nat} (h:IntI n ds m) (hm:m≠0):IntI n (ds ++ [m % 10000]) (m / 10000):=by
 have hd:m % 10000<B4:=Nat.mod_lt _ (by decide)
 have hdm:=Nat.div_add_mod m 10000
 refine ⟨h.dig.snoc hd,fun h0 hne=>?_,?_,?_⟩
 ·rw [show (ds ++ [m % 10000]).getLast hne=m % 10000 by simp]
  omega
 ·rw [val_snoc,List.length_append,List.length_singleton,Nat.pow_succ]
  have h1:=h.eq
  rw [← B4_eq] at hdm ⊢
  generalize B4 ^ ds.length=P at *
  generalize B4=B at *
  generalize m / B=a at *
  generalize m % B=b at *
  have:=congrArg (P * ·) hdm
  grind
 ·rw [List.length_append,List.length_singleton,Nat.pow_succ]
  have h1:=h.few
  have h2:m / 10000*10000≤m:=Nat.div_mul_le_self _ _
  have h3:m / 10000*10000*10000 ^ ds.length≤m*10000 ^ ds.length:=Nat.mul_le_mul_right _ h2
  have h4:m / 10000*(10000 ^ ds.length*10000)=m / 10000*10000*10000 ^ ds.length:=by grind
  omega
end Go.Proofs.YtnmlkobogofadaaGreatDoor.Z4
namespace Go.Proofs.YtnmlkobogofadaaGreatDoor.Z4
set_option maxRecDepth 100000
set_option maxHeartbeats 80000000
open Go.RowKit
def Ints (w:World) (b o:Nat) (xs:List Nat):Prop:=∀ j,j<xs.length→w.cell? ⟨b,o+j,none⟩=some (.int .i64 ((xs[j]?.getD 0:Nat):Int))
theorem Ints.below {B:Nat} {w w':World} {b o:Nat} {xs:List Nat} (h:Ints w b o xs) (hb:Below B w w') (hB:b<B):Ints w' b o xs:=
 fun j hj=>(hb.cell (p:=⟨b,o+j,none⟩) hB).trans (h j hj)
theorem Ints.take {w:World} {b o:Nat} {xs:List Nat} (h:Ints w b o xs) (k:Nat):Ints w b o (xs.take k):=fun j hj=>by
 rw [List.length_take] at hj
 rw [List.getElem?_take_of_lt (by omega)]
 exact h j (by omega)
def IsL (B:Nat) (w:World) (v:Value) (xs:List Nat):Prop:=
 (v=.slice none 0 0∧xs=[])∨∃ b o k,v=.slice (some ⟨b,o,none⟩) xs.length k∧B≤b∧b<w.heap.size∧xs.length≤k∧Ints w b o xs
theorem IsL.shape {B:Nat} {w:World} {v:Value} {xs:List Nat} (h:IsL B w v xs) :
  ∃ p b o k,v=.slice p xs.length k∧(xs.length≠0→p=some ⟨b,o,none⟩)∧(xs.length≠0→b<w.heap.size)∧xs.length≤k∧Ints w b o xs:=by
 rcases h with ⟨rfl,rfl⟩ | ⟨b,o,k,rfl,-,h2,h3,h4⟩
 ·exact ⟨none,0,0,0,rfl,fun h=>absurd rfl h,fun h=>absurd rfl h,Nat.le_refl _,fun j hj=>by simp at hj⟩
 ·exact ⟨_,b,o,k,rfl,fun _=>rfl,fun _=>h2,h3,h4⟩
theorem IsL.below {B:Nat} {w w':World} {v:Value} {xs:List Nat} (h:IsL B w v xs) (hb:Below w.heap.size w w'):IsL B w' v xs:=by
 rcases h with h | ⟨b,o,k,rfl,h1,h2,h3,h4⟩
 ·exact .inl h
 ·exact .inr ⟨b,o,k,rfl,h1,by have:=hb.size;omega,h3,h4.below hb h2⟩
theorem IsL.mono {B B':Nat} {w:World} {v:Value} {xs:List Nat} (h:IsL B w v xs) (hB:B'≤B):IsL B' w v xs:=by
 rcases h with h | ⟨b,o,k,rfl,h1,h2,h3,h4⟩
 ·exact .inl h
 ·exact .inr ⟨b,o,k,rfl,by omega,h2,h3,h4⟩
theorem IsL.nil (B:Nat) (w:World):IsL B w (.slice none 0 0) []:=.inl ⟨rfl,rfl⟩
theorem IsL.set {B:Nat} {w:World} {v:Value} {xs:List Nat} (h:IsL B w v xs) {a:Addr} (ha:a.block<B) (u:Value):IsL B (w.setCell a u) v xs:=by
 rcases h with h | ⟨b,o,k,rfl,h1,h2,h3,h4⟩
 ·exact .inl h
 ·refine .inr ⟨b,o,k,rfl,h1,by simpa using h2,h3,fun j hj=>?_⟩
  rw [World.cell?_setCell_other _ _ _ _ (fun e=>by have:=congrArg Addr.block e;simp only at this;omega)]
  exact h4 j hj
theorem IsL.of_own {w:World} {base:Nat} {e:TypeId} {v:Value} {n:Nat} {xs:List Nat} (h:w.ownsRow base e 1 v n (xs.map fun (d:Nat)=>Value.int .i64 (d:Int))):IsL base w v xs:=by
 have hn:xs.length=n:=by have:=h.1;simpa using this
 rcases h.2 with ⟨rfl,h0⟩ | ⟨g,cap,cur,rfl,hg,hb,hc,hm,hcur,hx⟩
 ·have:xs=[]:=List.length_eq_zero_iff.1 (by omega)
  subst this
  exact IsL.nil base w
 ·refine .inr ⟨g,0,cap,by rw [hn],hg,(Array.getElem?_eq_some_iff.1 hb).1,by omega,fun j hj=>?_⟩
  have:=h.cells (g:=g) rfl j (.int .i64 ((xs[j]?.getD 0:Nat):Int)) (by rw [List.getElem?_map,List.getElem?_eq_getElem hj];rfl)
  rw [show (⟨g,0,none⟩:Addr).add j=⟨g,0+j,none⟩ from by unfold Addr.add;split <;> simp_all] at this
  exact this
def lenOf:Value→Nat | .slice _ n _=>n | _=>0
theorem trim_calls (p:Option Addr) (b o k:Nat) (xs:List Nat) (w:World) (hp:xs.length≠0→p=some ⟨b,o,none⟩) (hx:Ints w b o xs) (hk:xs.length≤k) (hsz:xs.length≤1099511627776) :
  Calls Tryz.prog 213 #[.slice p xs.length k] w fun e w'=>∃ n,e=.returned (.slice p n k)∧Tail0 xs n∧w=w':=by
 have HP:=hid hp
 clear hp
 go_enter Tryz.func213,Tryz.ntmps213
 go_wp2
 go_loop [0] (fun v=>∃ n,v=.slice p n k∧n≤xs.length∧∀ j:Nat,n≤j→xs[j]?.getD 0=0) (fun v=>lenOf v)
 case atStart=>exact ⟨xs.length,rfl,Nat.le_refl _,fun j hj=>by rw [List.getElem?_eq_none hj];rfl⟩
 case round =>
  obtain ⟨n,rfl,hn,hz⟩:=hrel
  have HZ:=hid hz
  clear hz
  by_cases h0:n=0
  ·subst h0
   go_wp2
   go_ret
   exact ⟨0,rfl,⟨by omega,HZ.out,.inl rfl⟩,rfl⟩
  ·obtain ⟨m,rfl⟩:∃ m,n=m+1:=⟨n - 1,by omega⟩
   obtain ⟨x,hxm⟩:∃ x,xs[m]?.getD 0=x:=⟨_,rfl⟩
   have hpe:=HP.out (by omega)
   have cx:w.cell? ⟨b,o+m,none⟩=some (.int .i64 (x:Int)):=by rw [hx m (by omega),hxm]
   have HX:=hid hxm
   clear hxm hx h0
   by_cases hx0:x=0
   ·subst hx0
    go_wp2
    go_round
    case rel =>
     refine ⟨m,by simp [hpe],by omega,fun j hj=>?_⟩
     rcases Nat.lt_or_ge j (m+1) with h1 | h1
     ·rw [show j=m by omega];exact HX.out
     ·exact HZ.out j h1
    case measure=>simp [lenOf]
   ·have ht:((x:Int) == 0)=false:=by rw [beq_eq_false_iff_ne];omega
    go_wp2
    go_ret
    exact ⟨m+1,by simp,⟨hn,HZ.out,.inr (by rw [Nat.add_sub_cancel,HX.out];exact hx0)⟩,rfl⟩
theorem abs_calls (p p2:Option Addr) (b o k b2 o2 k2:Nat) (xs ys:List Nat) (w:World) (hp:xs.length≠0→p=some ⟨b,o,none⟩) (hx:Ints w b o xs) (hp2:ys.length≠0→p2=some ⟨b2,o2,none⟩) (hy:Ints w b2 o2 ys)
  (dx:Dig xs) (dy:Dig ys) (tx:Trimmed xs) (ty:Trimmed ys) (_hsz:xs.length≤1099511627776) (hsz2:ys.length≤1099511627776) :
  Calls Tryz.prog 168 #[.slice p xs.length k,.slice p2 ys.length k2] w fun e w'=>e=.returned (.int .i64 (cmpN (val xs) (val ys)))∧∃ q,w' = w.drewN q:=by
 have HP:=hid hp
 have HP2:=hid hp2
 clear hp hp2
 rcases Nat.lt_trichotomy xs.length ys.length with hl | hl | hl
 ·rw [cmpN_lt (val_lt_of_length dx ty hl)]
  have t1:((xs.length:Int) != (ys.length:Int))=true:=by rw [bne_iff_ne];omega
  go_enter Tryz.func168,Tryz.ntmps168
  go_wp2
  go_ret
  exact ⟨rfl,0,rfl⟩
 ·have hC0:CmpAt xs ys xs.length 0:=by have:=CmpAt.start xs ys;rwa [hl,cmpN_eq,← hl] at this
  have HL:=hid hl
  have HD:=hid (fun (k:Nat) (r:Int) (h:CmpAt xs ys k r) (hd:k=0∨r≠0)=>h.done hd dx dy tx ty)
  obtain ⟨n,hn⟩:∃ n,xs.length=n:=⟨_,rfl⟩
  rw [hn] at hl hC0 ⊢
  rw [← hl] at hsz2 ⊢
  have HN:=hid hn
  clear hn hl
  go_enter Tryz.func168,Tryz.ntmps168
  go_wp2
  go_loopw [5] (fun iv wr=>∃ (k q:Nat),iv=.int .i64 ((k:Int) - 1)∧wr=w.drewN q∧k≤n∧CmpAt xs ys k 0) (fun iv _=>(intOf iv+1).toNat)
  case atStart=>exact ⟨n,0,rfl,rfl,Nat.le_refl _,hC0⟩
  case round =>
   clear hC0
   obtain ⟨k,q,rfl,hwr,hk,hC⟩:=hrel
   by_cases h0:k=0
   ·subst h0
    have HE:=hid (HD.out _ _ hC (.inl rfl))
    have HW:=hid hwr
    clear hC hwr
    rw [show (((0:Nat):Int) - 1) = -1 from rfl]
    go_wp2
    go_ret
    exact ⟨by rw [← HE.out];rfl,q,HW.out⟩
   ·obtain ⟨m,rfl⟩:∃ m,k=m+1:=⟨k - 1,by omega⟩
    obtain ⟨x,hxm⟩:∃ x,xs[m]?.getD 0=x:=⟨_,rfl⟩
    obtain ⟨y,hym⟩:∃ x,ys[m]?.getD 0=x:=⟨_,rfl⟩
    have hC1:=hC.step
    rw [hxm,hym] at hC1
    have hn1:=HN.out
    have hn2:=HL.out
    have hpe:=HP.out (by omega)
    have hpe2:=HP2.out (by omega)
    have cx:wr.cell? ⟨b,o+m,none⟩=some (.int .i64 (x:Int)):=by rw [hwr,World.cell?_drewN,hx m (by omega),hxm]
    have cy:wr.cell? ⟨b2,o2+m,none⟩=some (.int .i64 (y:Int)):=by rw [hwr,World.cell?_drewN,hy m (by omega),hym]
    have HC:=hid hC1
    have HW:=hid hwr
    clear hC hC1 hwr hxm hym hx hy h0 hn1 hn2
    rcases Nat.lt_trichotomy x y with hxy | hxy | hxy
    ·have HE:=hid (HD.out _ _ HC.out (.inr (by rw [cmpN_lt hxy];omega)))
     have t1:((x:Int) != (y:Int))=true:=by rw [bne_iff_ne];omega
     go_wp2
     go_quiet (fail)
     go_wp2
     go_quiet (fail)
     go_wp2
     go_ret
     exact ⟨by rw [← HE.out,cmpN_lt hxy];rfl,_,by rw [HW.out];first | rfl | (simp only [World.drewN_drewN];rfl)⟩
    ·subst hxy
     have HC2:Hid (CmpAt xs ys m 0):=by have:=HC.out;rwa [cmpN_eq] at this
     go_wp2
     go_quiet (fail)
     go_wp2
     go_roundw
     case rel=>exact ⟨m,_,by go_num,by rw [HW.out];first | rfl | (simp only [World.drewN_drewN];rfl),by omega,HC2.out⟩
     case measure=>simp [intOf]
    ·have HE:=hid (HD.out _ _ HC.out (.inr (by rw [cmpN_gt hxy];omega)))
     have t1:((x:Int) != (y:Int))=true:=by rw [bne_iff_ne];omega
     go_wp2
     go_quiet (fail)
     go_wp2
     go_quiet (fail)
     go_wp2
     go_ret
     exact ⟨by rw [← HE.out,cmpN_gt hxy];rfl,_,by rw [HW.out];first | rfl | (simp only [World.drewN_drewN];rfl)⟩
 ·rw [cmpN_gt (val_lt_of_length dy tx hl)]
  have t1:((xs.length:Int) != (ys.length:Int))=true:=by rw [bne_iff_ne];omega
  go_enter Tryz.func168,Tryz.ntmps168
  go_wp2
  go_ret
  exact ⟨rfl,0,rfl⟩
theorem val_lt4 {xs:List Nat} (h:Dig xs) (hl:xs.length≤4):val xs<10000000000000000:=by
 have h1:=val_lt h
 have h2:B4 ^ xs.length≤B4 ^ 4:=Nat.pow_le_pow_right B4_pos hl
 have h3:B4 ^ 4=10000000000000000:=by decide
 omega
theorem top_calls (p:Option Addr) (b o k f:Nat) (xs:List Nat) (w:World) (hp:xs.length≠0→p=some ⟨b,o,none⟩) (hx:Ints w b o xs) (dx:Dig xs) (hsz:xs.length≤1099511627776) (hf:f≤xs.length) (hl:xs.length - f≤4) :
  Calls Tryz.prog 215 #[.slice p xs.length k,.int .i64 (f:Int)] w fun e w'=>e=.returned (.int .i64 ((val (xs.drop f):Nat):Int))∧w=w':=by
 have HP:=hid hp
 clear hp
 go_enter Tryz.func215,Tryz.ntmps215
 go_wp2
 go_loop [5,6] (fun nv iv=>∃ m:Nat,nv=.int .i64 ((val (xs.drop m):Nat):Int)∧iv=.int .i64 ((m:Int) - 1)∧f≤m∧m≤xs.length) (fun _ iv=>(intOf iv+1).toNat)
 case atStart=>exact ⟨xs.length,by rw [List.drop_of_length_le (Nat.le_refl _)];rfl,rfl,hf,Nat.le_refl _⟩
 case round =>
  obtain ⟨m,rfl,rfl,hm1,hm2⟩:=hrel
  rcases Nat.lt_or_ge f m with hlt | hge
  ·obtain ⟨j,rfl⟩:∃ j,m=j+1:=⟨m - 1,by omega⟩
   obtain ⟨x,hxj⟩:∃ x,xs[j]?.getD 0=x:=⟨_,rfl⟩
   have hpe:=HP.out (by omega)
   have cx:w.cell? ⟨b,o+j,none⟩=some (.int .i64 (x:Int)):=by rw [hx j (by omega),hxj]
   have hx1:x<10000:=hxj ▸ dx.getD j
   have hv:val (xs.drop j)=x+10000*val (xs.drop (j+1)):=by rw [val_drop xs j (by omega),hxj,B4_eq]
   have hv2:val (xs.drop j)<10000000000000000:=val_lt4 (dx.drop j) (by rw [List.length_drop];omega)
   obtain ⟨V,hV⟩:∃ V,val (xs.drop (j+1))=V:=⟨_,rfl⟩
   rw [hV] at hv ⊢
   have HV:=hid hv
   have b1:V*10000+x<10000000000000000:=by omega
   clear hv hV hxj hx hv2
   go_wp2
   go_round
   case rel=>exact ⟨j,by rw [HV.out];go_num,by go_num,by omega,by omega⟩
   case measure=>simp [intOf]
  ·obtain rfl:f=m:=by omega
   go_wp2
   go_ret
   exact ⟨rfl,rfl⟩
end Go.Proofs.YtnmlkobogofadaaGreatDoor.Z4
namespace Go.Proofs.YtnmlkobogofadaaGreatDoor.Z4
open Go.RowKit Go.Sort
abbrev E4 (d:Nat):Value:=.int .i64 (d:Int)
def HoldsL (w:World) (b o:Nat) (xs:List Nat):Prop:=∀ j,j<xs.length→w.cell? ⟨b,o+j,none⟩=some (E4 (xs[j]?.getD 0))∧w.frozen? ⟨b,o+j,none⟩=false
def putL (w:World) (q b o:Nat) (xs:List Nat):World:=putRow E4 (Sort.ahead w q) b o xs.toArray
theorem bang_getD (xs:List Nat) (j:Nat):xs.toArray[j]! = xs[j]?.getD 0:=by
 by_cases h:j<xs.length
 ·rw [getElem!_pos _ j (by simpa using h)];simp [h]
 ·rw [getElem!_neg _ j (by simpa using h),List.getElem?_eq_none (by omega)];rfl
theorem holdsL_iff {w:World} {b o:Nat} {xs:List Nat}:HoldsL w b o xs↔Holds E4 w b o xs.toArray:=by
 unfold HoldsL Holds
 simp only [List.size_toArray,bang_getD]
theorem HoldsL.ints {w:World} {b o:Nat} {xs:List Nat} (h:HoldsL w b o xs):Ints w b o xs:=fun j hj=>(h j hj).1
theorem HoldsL.below {B:Nat} {w w':World} {b o:Nat} {xs:List Nat} (h:HoldsL w b o xs) (hb:Below B w w') (hB:b<B):HoldsL w' b o xs:=
 fun j hj=>⟨(hb.cell (p:=⟨b,o+j,none⟩) hB).trans (h j hj).1,(hb.frozen (p:=⟨b,o+j,none⟩) hB).trans (h j hj).2⟩
theorem HoldsL.drop {w:World} {b o:Nat} {xs:List Nat} (h:HoldsL w b o xs) (k:Nat):HoldsL w b (o+k) (xs.drop k):=fun j hj=>by
 have:=h (k+j) (by simp at hj;omega)
 rw [Nat.add_assoc,List.getElem?_drop]
 exact this
theorem HoldsL.take {w:World} {b o:Nat} {xs:List Nat} (h:HoldsL w b o xs) (k:Nat):HoldsL w b o (xs.take k):=fun j hj=>by
 have hj':j<k∧j<xs.length:=by simp at hj;omega
 have:=h j hj'.2
 rw [List.getElem?_take_of_lt hj'.1]
 exact this
theorem putL_self (w:World) (b o:Nat) (xs:List Nat) (h:HoldsL w b o xs):putL w 0 b o xs=w:=by
 unfold putL
 rw [ahead_zero]
 exact putRow_self E4 w b o xs.toArray (holdsL_iff.1 h)
theorem holdsL_putL (w:World) (q b o:Nat) (xs ys:List Nat) (h:HoldsL w b o xs) (hl:ys.length=xs.length):HoldsL (putL w q b o ys) b o ys:=
 holdsL_iff.2 (holds_putRow E4 (Sort.ahead w q) b o xs.toArray ys.toArray (holds_ahead _ _ _ _ _ _ (holdsL_iff.1 h)) (by simpa using hl))
theorem putL_set (w:World) (q b o:Nat) (xs:List Nat) (i x:Nat) (hi:i<xs.length):(putL w q b o xs).setCell ⟨b,o+i,none⟩ (.int .i64 (x:Int))=putL w q b o (xs.set i x):=by
 unfold putL
 rw [show (Value.int .i64 (x:Int))=E4 x from rfl,putRow_set E4 _ b o xs.toArray i x (by simpa using hi),List.setIfInBounds_toArray]
theorem putL_drewN (w:World) (m q b o:Nat) (xs:List Nat):(putL w m b o xs).drewN q=putL w (m+q) b o xs:=by
 show Sort.ahead (putRow E4 (Sort.ahead w m) b o xs.toArray) q=_
 rw [putRow_ahead E4 w m,ahead_ahead,← putRow_ahead]
 rfl
theorem putL_drew (w:World) (m b o:Nat) (xs:List Nat):(putL w m b o xs).drew=putL w (m+1) b o xs:=putL_drewN w m 1 b o xs
theorem putL_putL (w:World) (m q b o:Nat) (xs ys:List Nat) (h:ys.length=xs.length):putL (putL w m b o xs) q b o ys=putL w (m+q) b o ys:=by
 unfold putL
 rw [← putRow_ahead,putRow_putRow E4 _ b o xs.toArray ys.toArray (by simpa using h),ahead_ahead]
theorem cell_putL_other (w:World) (q b o:Nat) (xs:List Nat) (a:Addr) (h:a.block≠b∨a.off<o∨o+xs.length≤a.off):(putL w q b o xs).cell? a=w.cell? a:=by
 unfold putL
 rw [cell?_putRow_other E4 _ b o xs.toArray a (by simpa using h),cell?_ahead]
theorem frozen_putL (w:World) (q b o:Nat) (xs:List Nat) (a:Addr):(putL w q b o xs).frozen? a=w.frozen? a:=by
 unfold putL
 rw [frozen?_putRow,frozen?_ahead]
@[simp] theorem size_putL (w:World) (q b o:Nat) (xs:List Nat):(putL w q b o xs).heap.size=w.heap.size:=by
 unfold putL
 rw [size_putRow]
 rfl
theorem Ints.putL {w:World} {q b o bb bo:Nat} {xs ys:List Nat} (h:Ints w bb bo ys) (hne:bb≠b∨bo+ys.length≤o∨o+xs.length≤bo):Ints (putL w q b o xs) bb bo ys:=fun j hj=>by
 rw [cell_putL_other _ _ _ _ _ _ (by simp only;omega)]
 exact h j hj
theorem HoldsL.putL {w:World} {q b o bb bo:Nat} {xs ys:List Nat} (h:HoldsL w bb bo ys) (hne:bb≠b∨bo+ys.length≤o∨o+xs.length≤bo):HoldsL (putL w q b o xs) bb bo ys:=fun j hj=>by
 rw [cell_putL_other _ _ _ _ _ _ (by simp only;omega),frozen_putL]
 exact h j hj
theorem heap_putL (w:World) (q b o:Nat) (xs:List Nat) (k:Nat) (h:k≠b):(putL w q b o xs).heap[k]? = w.heap[k]?:=by
 unfold Go.Proofs.YtnmlkobogofadaaGreatDoor.Z4.putL putRow mapBlock Sort.ahead
 simp only [Array.getElem?_modify]
 rw [if_neg (by omega)]
theorem below_putL {B:Nat} (w:World) (q b o:Nat) (xs:List Nat) (h:B≤b):Below B w (putL w q b o xs):=
 ⟨rfl,rfl,rfl,by simp,fun k hk=>heap_putL _ _ _ _ _ _ (by omega)⟩
theorem infoI:(Tryz.prog.info? 3).map (fun i=>(i.zero,i.size,i.bytes))=some (some (.int .i64 0),1,8):=by kernel_rfl
theorem sizeI:(Tryz.prog.info? 3).map (·.size)=some 1:=by kernel_rfl
def allocZ (w:World) (n:Nat):World:=w.alloc (.cells (madeCells #[.int .i64 0] n) 3)
theorem size_allocZ (w:World) (n:Nat):(allocZ w n).heap.size=w.heap.size+1:=by unfold allocZ;simp
theorem makeN_run (n:Nat) (hn:n≤2199023255552) (w:World) :
  (Instr.makeSlice 36 (.int .i64 (n:Int)) (.int .i64 (n:Int))).run Tryz.prog w=.ok (.slice (some ⟨w.heap.size,0,none⟩) n n) (allocZ w n):=
 run_make_row' 36 3 _ 8 Tryz.underlying36 infoI rfl .i64 .i64 n (by omega) (by omega) w
theorem holdsL_allocZ (w:World) (n:Nat):HoldsL (allocZ w n) w.heap.size 0 (List.replicate n 0):=fun j hj=>by
 have hj':j<n:=by simpa using hj
 unfold allocZ
 rw [World.cell?_alloc_at _ _ _ _ rfl,World.frozen?_alloc_at _ _ _ _ rfl]
 refine ⟨?_,rfl⟩
 simp only [madeCells,Nat.zero_add,Array.getElem?_map,List.getElem?_replicate,hj',if_true]
 rw [Array.getElem?_eq_getElem (by simpa using hj')]
 simp [Nat.mod_one]
theorem below_allocZ (w:World) (n:Nat):Below w.heap.size w (allocZ w n):=(Below.refl _ _).alloc (Nat.le_refl _) _
theorem addr_add (b o k:Nat):(⟨b,o,none⟩:Addr).add k=⟨b,o+k,none⟩:=by unfold Addr.add;split <;> simp_all
end Go.Proofs.YtnmlkobogofadaaGreatDoor.Z4
namespace Go.Proofs.YtnmlkobogofadaaGreatDoor.Z4
set_option maxRecDepth 100000
set_option maxHeartbeats 80000000
open Go.RowKit Go.Sort
def RetL (w:World) (n:Nat) (e:Ending) (w':World):Prop:=∃ v ds,e=.returned v∧IsL w.heap.size w' v ds∧Dig ds∧Trimmed ds∧val ds=n∧Below w.heap.size w w'
theorem trim_L {B:Nat} (v:Value) (xs:List Nat) (w:World) (h:IsL B w v xs) (hsz:xs.length≤1099511627776) :
  Calls Tryz.prog 213 #[v] w fun e w'=>∃ v' n,e=.returned v'∧Tail0 xs n∧IsL B w v' (xs.take n)∧w=w':=by
 rcases h with ⟨rfl,rfl⟩ | ⟨b,o,k,rfl,h1,h2,h3,h4⟩
 ·refine (trim_calls none 0 0 0 [] w (fun h=>absurd rfl h) (fun j hj=>by simp at hj) (by simp) (by simp)).mono ?_
  rintro e w' ⟨n,rfl,ht,rfl⟩
  obtain rfl:n=0:=by have:=ht.1;simpa using this
  exact ⟨_,0,rfl,ht,.inl ⟨rfl,rfl⟩,rfl⟩
 ·refine (trim_calls _ b o k xs w (fun _=>rfl) h4 h3 hsz).mono ?_
  rintro e w' ⟨n,rfl,ht,rfl⟩
  have hl:(xs.take n).length=n:=by rw [List.length_take];exact Nat.min_eq_left ht.1
  have:=ht.1
  exact ⟨_,n,rfl,ht,.inr ⟨b,o,k,by rw [hl],h1,h2,by omega,h4.take n⟩,rfl⟩
theorem abs_L {B B2:Nat} (v v2:Value) (xs ys:List Nat) (w:World) (h:IsL B w v xs) (h2:IsL B2 w v2 ys) (dx:Dig xs) (dy:Dig ys) (tx:Trimmed xs) (ty:Trimmed ys) (hsz:xs.length≤1099511627776) (hsz2:ys.length≤1099511627776) :
  Calls Tryz.prog 168 #[v,v2] w fun e w'=>e=.returned (.int .i64 (cmpN (val xs) (val ys)))∧∃ q,w' = w.drewN q:=by
 obtain ⟨p,b,o,k,rfl,hp,hb,hk,hx⟩:=h.shape
 obtain ⟨p2,b2,o2,k2,rfl,hp2,hb2,hk2,hy⟩:=h2.shape
 exact abs_calls p p2 b o k b2 o2 k2 xs ys w hp hx hp2 hy dx dy tx ty hsz hsz2
theorem top_L {B:Nat} (v:Value) (f:Nat) (xs:List Nat) (w:World) (h:IsL B w v xs) (dx:Dig xs) (hsz:xs.length≤1099511627776) (hf:f≤xs.length) (hl:xs.length - f≤4) :
  Calls Tryz.prog 215 #[v,.int .i64 (f:Int)] w fun e w'=>e=.returned (.int .i64 ((val (xs.drop f):Nat):Int))∧w=w':=by
 obtain ⟨p,b,o,k,rfl,hp,hb,hk,hx⟩:=h.shape
 exact top_calls p b o k f xs w hp hx dx hsz hf hl
abbrev enc (d:Nat):Value:=.int .i64 (d:Int)
theorem snoc_enc (ds:List Nat) (d:Nat):(ds ++ [d]).map enc=ds.map enc ++ [.int .i64 (d:Int)]:=by simp
theorem minus_main (b o k b2 o2 k2:Nat) (xs ys:List Nat) (w:World) (hbw:b<w.heap.size) (hx:Ints w b o xs) (hbw2:b2<w.heap.size) (hy:Ints w b2 o2 ys)
  (dx:Dig xs) (dy:Dig ys) (hl:ys.length≤xs.length) (hv:val ys≤val xs) (hsz:xs.length≤1099511627776) :
  Calls Tryz.prog 169 #[.slice (some ⟨b,o,none⟩) xs.length k,.slice (some ⟨b2,o2,none⟩) ys.length k2] w (RetL w (val xs - val ys)):=by
 have HP:=hid (And.intro hbw hx)
 have HP2:=hid (And.intro hbw2 hy)
 have HV:=hid (And.intro hl (And.intro hv hl))
 clear hbw hbw2 hx hy hv
 obtain ⟨i0,hi,hz0,hz1,hz2⟩:=info_parts infoI
 obtain ⟨V,hV⟩:∃ V,val xs - val ys=V:=⟨_,rfl⟩
 rw [hV]
 have HVV:=hid hV
 clear hV
 go_enter Tryz.func169,Tryz.ntmps169
 go_wp2
 go_loopw [5,6,7] (fun ov cv iv wr=>∃ (i c:Nat) (ds:List Nat),iv=.int .i64 i∧cv=.int .i64 c∧wr.ownsRow w.heap.size 3 1 ov i (ds.map enc)∧MinusI xs ys ds i c∧Below w.heap.size w wr) (fun _ _ iv _=>xs.length - (intOf iv).toNat)
 case atStart=>exact ⟨0,0,[],rfl,rfl,World.ownsRow_nil _ _ _ _,MinusI.start xs ys,Below.refl _ _⟩
 case round =>
  obtain ⟨i,c,ds,rfl,rfl,hown,hI,hB⟩:=hrel
  have hc1:=hI.le
  have hik:=hI.hk
  by_cases hlt:i<xs.length
  ·obtain ⟨x,hxi⟩:∃ x,xs[i]?.getD 0=x:=⟨_,rfl⟩
   obtain ⟨y,hyi⟩:∃ y,ys[i]?.getD 0=y:=⟨_,rfl⟩
   have hx1:x<10000:=hxi ▸ dx.getD i
   have hy1:y<10000:=hyi ▸ dy.getD i
   have cx:wr.cell? ⟨b,o+i,none⟩=some (.int .i64 (x:Int)):=by rw [hB.cell (p:=⟨b,o+i,none⟩) (HP.out.1),HP.out.2 i hlt,hxi]
   have HI:=hid (fun (d c':Nat) (hd:d<B4) (hc:c'≤1) (e:x+c' * B4=d+y+c)=>hI.step hlt hxi hyi hd hc e)
   have HB:=hid hB
   have HO:=hid hown
   by_cases hiy:i<ys.length
   ·have cy:wr.cell? ⟨b2,o2+i,none⟩=some (.int .i64 (y:Int)):=by rw [hB.cell (p:=⟨b2,o2+i,none⟩) (HP2.out.1),HP2.out.2 i hiy,hyi]
    clear hI hxi hyi
    by_cases hs:(x:Int) - (c:Int) - (y:Int)<0
    ·obtain ⟨d,hd⟩:∃ d:Nat,(d:Int)=(x:Int) - (c:Int) - (y:Int)+10000:=⟨((x:Int) - (c:Int) - (y:Int)+10000).toNat,by omega⟩
     have hd1:d<10000:=by omega
     have hs2:(x:Int) - (c:Int)<(y:Int):=by omega
     have HN:=hid (HI.out d 1 hd1 (by omega) (by rw [B4_eq];omega))
     have HD:=hid hd
     clear hd
     go_wp2_with (first
      | (at_builtin;refine wpList_append_own _ rfl _ _ 36 rfl w.heap.size 3 i0 (.int .i64 0) 1 8 Tryz.underlying36 hi hz0 hz1 hz2 rfl (by decide) _ _ _ rfl (HO.out.alloc _) ⟨wr.heap.size,0,none⟩ 1 1 [.int .i64 (d:Int)] rfl rfl ?c1 ?c2 ?c3 ?c4 ?c5 ?_))
     case c1 =>
      intro j u hj
      match j,hj with
      | 0,hj=>simp at hj;subst hj;first | (simp;have:=HD.out;omega) | (simp [Addr.add];have:=HD.out;omega)
     case c2=>first | rfl | (intro u hu;simp at hu;subst hu;rfl)
     case c3=>unfold maxLen;omega
     case c4=>omega
     case c5=>have:=HB.out.size;simp;omega
     intro v' w1 hown' hgrow _
     have hB2:Below w.heap.size w w1:=(HB.out.alloc HB.out.size _).grown hgrow (by have:=HB.out.size;simp;omega) (fun k hk=>(HO.out.lt k hk).1)
     rw [← snoc_enc] at hown'
     have HO2:=hid hown'
     have HB2:=hid hB2
     clear hown' hgrow hB2
     go_wp2
     go_roundw
     case rel=>exact ⟨i+1,1,ds ++ [d],by go_num,rfl,HO2.out,HN.out,HB2.out⟩
     case measure=>simp [intOf];omega
    ·obtain ⟨d,hd⟩:∃ d:Nat,(d:Int)=(x:Int) - (c:Int) - (y:Int):=⟨((x:Int) - (c:Int) - (y:Int)).toNat,by omega⟩
     have hd1:d<10000:=by omega
     have hs2:¬ (x:Int) - (c:Int)<(y:Int):=by omega
     have hs3:(y:Int)≤(x:Int) - (c:Int):=by omega
     have HN:=hid (HI.out d 0 hd1 (by omega) (by rw [B4_eq];omega))
     have HD:=hid hd
     clear hd
     go_wp2_with (first
      | (at_builtin;refine wpList_append_own _ rfl _ _ 36 rfl w.heap.size 3 i0 (.int .i64 0) 1 8 Tryz.underlying36 hi hz0 hz1 hz2 rfl (by decide) _ _ _ rfl (HO.out.alloc _) ⟨wr.heap.size,0,none⟩ 1 1 [.int .i64 (d:Int)] rfl rfl ?c1 ?c2 ?c3 ?c4 ?c5 ?_))
     case c1 =>
      intro j u hj
      match j,hj with
      | 0,hj=>simp at hj;subst hj;first | (simp;have:=HD.out;omega) | (simp [Addr.add];have:=HD.out;omega)
     case c2=>first | rfl | (intro u hu;simp at hu;subst hu;rfl)
     case c3=>unfold maxLen;omega
     case c4=>omega
     case c5=>have:=HB.out.size;simp;omega
     intro v' w1 hown' hgrow _
     have hB2:Below w.heap.size w w1:=(HB.out.alloc HB.out.size _).grown hgrow (by have:=HB.out.size;simp;omega) (fun k hk=>(HO.out.lt k hk).1)
     rw [← snoc_enc] at hown'
     have HO2:=hid hown'
     have HB2:=hid hB2
     clear hown' hgrow hB2
     go_wp2
     go_roundw
     case rel=>exact ⟨i+1,0,ds ++ [d],by go_num,rfl,HO2.out,HN.out,HB2.out⟩
     case measure=>simp [intOf];omega
   ·obtain rfl:y=0:=by rw [← hyi,List.getElem?_eq_none (by omega)];rfl
    clear hI hxi hyi
    by_cases hs:(x:Int) - (c:Int)<0
    ·obtain ⟨d,hd⟩:∃ d:Nat,(d:Int)=(x:Int) - (c:Int)+10000:=⟨((x:Int) - (c:Int)+10000).toNat,by omega⟩
     have hd1:d<10000:=by omega
     have hs2:x<c:=by omega
     have HN:=hid (HI.out d 1 hd1 (by omega) (by rw [B4_eq];omega))
     have HD:=hid hd
     clear hd
     go_wp2_with (first
      | (at_builtin;refine wpList_append_own _ rfl _ _ 36 rfl w.heap.size 3 i0 (.int .i64 0) 1 8 Tryz.underlying36 hi hz0 hz1 hz2 rfl (by decide) _ _ _ rfl (HO.out.alloc _) ⟨wr.heap.size,0,none⟩ 1 1 [.int .i64 (d:Int)] rfl rfl ?c1 ?c2 ?c3 ?c4 ?c5 ?_))
     case c1 =>
      intro j u hj
      match j,hj with
      | 0,hj=>simp at hj;subst hj;first | (simp;have:=HD.out;omega) | (simp [Addr.add];have:=HD.out;omega)
     case c2=>first | rfl | (intro u hu;simp at hu;subst hu;rfl)
     case c3=>unfold maxLen;omega
     case c4=>omega
     case c5=>have:=HB.out.size;simp;omega
     intro v' w1 hown' hgrow _
     have hB2:Below w.heap.size w w1:=(HB.out.alloc HB.out.size _).grown hgrow (by have:=HB.out.size;simp;omega) (fun k hk=>(HO.out.lt k hk).1)
     rw [← snoc_enc] at hown'
     have HO2:=hid hown'
     have HB2:=hid hB2
     clear hown' hgrow hB2
     go_wp2
     go_roundw
     case rel=>exact ⟨i+1,1,ds ++ [d],by go_num,rfl,HO2.out,HN.out,HB2.out⟩
     case measure=>simp [intOf];omega
    ·obtain ⟨d,hd⟩:∃ d:Nat,(d:Int)=(x:Int) - (c:Int):=⟨((x:Int) - (c:Int)).toNat,by omega⟩
     have hd1:d<10000:=by omega
     have hs2:¬ x<c:=by omega
     have hs3:c≤x:=by omega
     have HN:=hid (HI.out d 0 hd1 (by omega) (by rw [B4_eq];omega))
     have HD:=hid hd
     clear hd
     go_wp2_with (first
      | (at_builtin;refine wpList_append_own _ rfl _ _ 36 rfl w.heap.size 3 i0 (.int .i64 0) 1 8 Tryz.underlying36 hi hz0 hz1 hz2 rfl (by decide) _ _ _ rfl (HO.out.alloc _) ⟨wr.heap.size,0,none⟩ 1 1 [.int .i64 (d:Int)] rfl rfl ?c1 ?c2 ?c3 ?c4 ?c5 ?_))
     case c1 =>
      intro j u hj
      match j,hj with
      | 0,hj=>simp at hj;subst hj;first | (simp;have:=HD.out;omega) | (simp [Addr.add];have:=HD.out;omega)
     case c2=>first | rfl | (intro u hu;simp at hu;subst hu;rfl)
     case c3=>unfold maxLen;omega
     case c4=>omega
     case c5=>have:=HB.out.size;simp;omega
     intro v' w1 hown' hgrow _
     have hB2:Below w.heap.size w w1:=(HB.out.alloc HB.out.size _).grown hgrow (by have:=HB.out.size;simp;omega) (fun k hk=>(HO.out.lt k hk).1)
     rw [← snoc_enc] at hown'
     have HO2:=hid hown'
     have HB2:=hid hB2
     clear hown' hgrow hB2
     go_wp2
     go_roundw
     case rel=>exact ⟨i+1,0,ds ++ [d],by go_num,rfl,HO2.out,HN.out,HB2.out⟩
     case measure=>simp [intOf];omega
  ·obtain rfl:i=xs.length:=by omega
   have hD:=hid (hI.done HV.out.1 HV.out.2.1)
   have hds:ds.length=xs.length:=hI.len
   have HL:=hid (IsL.of_own hown)
   have HI:=hid hI
   have HB:=hid hB
   have hds2:ds.length≤1099511627776:=by omega
   have HDS:=hid hds2
   clear hI hds hown hds2 hB
   go_wp2_with fail
   refine (trim_L _ ds _ HL.out HDS.out).mono ?_
   rintro e w' ⟨v',n,rfl,ht,hv',rfl⟩
   have HT:=hid (And.intro ht hv')
   clear ht hv'
   go_wp2
   go_ret
   exact ⟨_,_,rfl,HT.out.2,HI.out.dig.take n,HT.out.1.trimmed,by rw [HT.out.1.val,hD.out,HVV.out],HB.out⟩
theorem minus_none (p2:Option Addr) (b o k k2:Nat) (xs:List Nat) (w:World) (hbw:b<w.heap.size) (hx:Ints w b o xs)
  (dx:Dig xs) (hsz:xs.length≤1099511627776) :
  Calls Tryz.prog 169 #[.slice (some ⟨b,o,none⟩) xs.length k,.slice p2 0 k2] w (RetL w (val xs - val [])):=by
 have HP:=hid (And.intro hbw hx)
 have HV:=hid (And.intro (Nat.zero_le xs.length:([]:List Nat).length≤xs.length) (And.intro (Nat.zero_le (val xs):val []≤val xs) trivial))
 clear hbw hx
 obtain ⟨i0,hi,hz0,hz1,hz2⟩:=info_parts infoI
 obtain ⟨V,hV⟩:∃ V,val xs - val []=V:=⟨_,rfl⟩
 rw [hV]
 have HVV:=hid hV
 clear hV
 go_enter Tryz.func169,Tryz.ntmps169
 go_wp2
 go_loopw [5,6,7] (fun ov cv iv wr=>∃ (i c:Nat) (ds:List Nat),iv=.int .i64 i∧cv=.int .i64 c∧wr.ownsRow w.heap.size 3 1 ov i (ds.map enc)∧MinusI xs [] ds i c∧Below w.heap.size w wr) (fun _ _ iv _=>xs.length - (intOf iv).toNat)
 case atStart=>exact ⟨0,0,[],rfl,rfl,World.ownsRow_nil _ _ _ _,MinusI.start xs [],Below.refl _ _⟩
 case round =>
  obtain ⟨i,c,ds,rfl,rfl,hown,hI,hB⟩:=hrel
  have hc1:=hI.le
  have hik:=hI.hk
  by_cases hlt:i<xs.length
  ·obtain ⟨x,hxi⟩:∃ x,xs[i]?.getD 0=x:=⟨_,rfl⟩
   obtain ⟨y,hyi⟩:∃ y,([]:List Nat)[i]?.getD 0=y:=⟨_,rfl⟩
   have hx1:x<10000:=hxi ▸ dx.getD i
   have cx:wr.cell? ⟨b,o+i,none⟩=some (.int .i64 (x:Int)):=by rw [hB.cell (p:=⟨b,o+i,none⟩) (HP.out.1),HP.out.2 i hlt,hxi]
   have HI:=hid (fun (d c':Nat) (hd:d<B4) (hc:c'≤1) (e:x+c' * B4=d+y+c)=>hI.step hlt hxi hyi hd hc e)
   have HB:=hid hB
   have HO:=hid hown
   obtain rfl:y=0:=by rw [← hyi];rfl
   clear hI hxi hyi
   by_cases hs:(x:Int) - (c:Int)<0
   ·obtain ⟨d,hd⟩:∃ d:Nat,(d:Int)=(x:Int) - (c:Int)+10000:=⟨((x:Int) - (c:Int)+10000).toNat,by omega⟩
    have hd1:d<10000:=by omega
    have hs2:x<c:=by omega
    have HN:=hid (HI.out d 1 hd1 (by omega) (by rw [B4_eq];omega))
    have HD:=hid hd
    clear hd
    go_wp2_with (first
     | (at_builtin;refine wpList_append_own _ rfl _ _ 36 rfl w.heap.size 3 i0 (.int .i64 0) 1 8 Tryz.underlying36 hi hz0 hz1 hz2 rfl (by decide) _ _ _ rfl (HO.out.alloc _) ⟨wr.heap.size,0,none⟩ 1 1 [.int .i64 (d:Int)] rfl rfl ?c1 ?c2 ?c3 ?c4 ?c5 ?_))
    case c1 =>
     intro j u hj
     match j,hj with
     | 0,hj=>simp at hj;subst hj;first | (simp;have:=HD.out;omega) | (simp [Addr.add];have:=HD.out;omega)
    case c2=>first | rfl | (intro u hu;simp at hu;subst hu;rfl)
    case c3=>unfold maxLen;omega
    case c4=>omega
    case c5=>have:=HB.out.size;simp;omega
    intro v' w1 hown' hgrow _
    have hB2:Below w.heap.size w w1:=(HB.out.alloc HB.out.size _).grown hgrow (by have:=HB.out.size;simp;omega) (fun k hk=>(HO.out.lt k hk).1)
    rw [← snoc_enc] at hown'
    have HO2:=hid hown'
    have HB2:=hid hB2
    clear hown' hgrow hB2
    go_wp2
    go_roundw
    case rel=>exact ⟨i+1,1,ds ++ [d],by go_num,rfl,HO2.out,HN.out,HB2.out⟩
    case measure=>simp [intOf];omega
   ·obtain ⟨d,hd⟩:∃ d:Nat,(d:Int)=(x:Int) - (c:Int):=⟨((x:Int) - (c:Int)).toNat,by omega⟩
    have hd1:d<10000:=by omega
    have hs2:¬ x<c:=by omega
    have hs3:c≤x:=by omega
    have HN:=hid (HI.out d 0 hd1 (by omega) (by rw [B4_eq];omega))
    have HD:=hid hd
    clear hd
    go_wp2_with (first
     | (at_builtin;refine wpList_append_own _ rfl _ _ 36 rfl w.heap.size 3 i0 (.int .i64 0) 1 8 Tryz.underlying36 hi hz0 hz1 hz2 rfl (by decide) _ _ _ rfl (HO.out.alloc _) ⟨wr.heap.size,0,none⟩ 1 1 [.int .i64 (d:Int)] rfl rfl ?c1 ?c2 ?c3 ?c4 ?c5 ?_))
    case c1 =>
     intro j u hj
     match j,hj with
     | 0,hj=>simp at hj;subst hj;first | (simp;have:=HD.out;omega) | (simp [Addr.add];have:=HD.out;omega)
    case c2=>first | rfl | (intro u hu;simp at hu;subst hu;rfl)
    case c3=>unfold maxLen;omega
    case c4=>omega
    case c5=>have:=HB.out.size;simp;omega
    intro v' w1 hown' hgrow _
    have hB2:Below w.heap.size w w1:=(HB.out.alloc HB.out.size _).grown hgrow (by have:=HB.out.size;simp;omega) (fun k hk=>(HO.out.lt k hk).1)
    rw [← snoc_enc] at hown'
    have HO2:=hid hown'
    have HB2:=hid hB2
    clear hown' hgrow hB2
    go_wp2
    go_roundw
    case rel=>exact ⟨i+1,0,ds ++ [d],by go_num,rfl,HO2.out,HN.out,HB2.out⟩
    case measure=>simp [intOf];omega
  ·obtain rfl:i=xs.length:=by omega
   have hD:=hid (hI.done HV.out.1 HV.out.2.1)
   have hds:ds.length=xs.length:=hI.len
   have HL:=hid (IsL.of_own hown)
   have HI:=hid hI
   have HB:=hid hB
   have hds2:ds.length≤1099511627776:=by omega
   have HDS:=hid hds2
   clear hI hds hown hds2 hB
   go_wp2_with fail
   refine (trim_L _ ds _ HL.out HDS.out).mono ?_
   rintro e w' ⟨v',n,rfl,ht,hv',rfl⟩
   have HT:=hid (And.intro ht hv')
   clear ht hv'
   go_wp2
   go_ret
   exact ⟨_,_,rfl,HT.out.2,HI.out.dig.take n,HT.out.1.trimmed,by rw [HT.out.1.val,hD.out,HVV.out],HB.out⟩
theorem minus_nil (p p2:Option Addr) (k k2:Nat) (w:World):Calls Tryz.prog 169 #[.slice p 0 k,.slice p2 0 k2] w (RetL w 0):=by
 go_enter Tryz.func169,Tryz.ntmps169
 go_wp2
 refine wp_loop_rounds 1 ?_
 rw [rounds_succ]
 go_wp2_with fail
 refine (trim_L _ [] _ (IsL.nil w.heap.size _) (by simp)).mono ?_
 rintro e w' ⟨v',n,rfl,ht,hv',rfl⟩
 have HT:=hid (And.intro ht hv')
 clear ht hv'
 go_wp2
 go_ret
 exact ⟨_,_,rfl,HT.out.2,Dig.nil.take n,HT.out.1.trimmed,by rw [HT.out.1.val];rfl,Below.refl _ _⟩
theorem minus_L {B B2:Nat} (v v2:Value) (xs ys:List Nat) (w:World) (h:IsL B w v xs) (h2:IsL B2 w v2 ys) (dx:Dig xs) (dy:Dig ys) (ty:Trimmed ys) (hv:val ys≤val xs) (hsz:xs.length≤1099511627776) :
  Calls Tryz.prog 169 #[v,v2] w (RetL w (val xs - val ys)):=by
 have hl:=len_of_val dx ty hv
 obtain ⟨p,b,o,k,rfl,hp,hb,hk,hx⟩:=h.shape
 obtain ⟨p2,b2,o2,k2,rfl,hp2,hb2,hk2,hy⟩:=h2.shape
 by_cases h0:xs.length=0
 ·obtain rfl:xs=[]:=List.length_eq_zero_iff.1 h0
  obtain rfl:ys=[]:=List.length_eq_zero_iff.1 (by simpa using hl)
  exact minus_nil p p2 k k2 w
 ·rw [hp h0]
  by_cases h1:ys.length=0
  ·obtain rfl:ys=[]:=List.length_eq_zero_iff.1 h1
   exact minus_none p2 b o k k2 xs w (hb h0) hx dx hsz
  ·rw [hp2 h1]
   exact minus_main b o k b2 o2 k2 xs ys w (hb h0) hx (hb2 h1) hy dx dy hl hv hsz
end Go.Proofs.YtnmlkobogofadaaGreatDoor.Z4
