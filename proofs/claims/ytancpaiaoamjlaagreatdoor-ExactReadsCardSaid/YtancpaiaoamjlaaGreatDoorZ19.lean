/- What the proof rests on, part 19. -/
import Derived.Test.YtancpaiaoamjlaaGreatDoorZ11
import Derived.Sort.Row
import Derived.Sort.Walk0
import Derived.Deep.Draws
import Derived.CellFam
import Derived.Deep.OwnRows
import Derived.Laws.IdiomCopy
import Derived.Lib.RowBridge
namespace Go.Proofs.YtancpaiaoamjlaaGreatDoor
set_option maxRecDepth 100000
set_option maxHeartbeats 80000000
namespace Z4
theorem AO {xs:List Nat}:val (xs.take xs.length)=val xs:=by rw [List.take_of_length_le (Nat.le_refl _)]
theorem iV (xs:List Nat) (k:Nat):val (xs.take (k+1))=val (xs.take k)+B4 ^ k*xs[k]?.getD 0:=by
 by_cases h:k<xs.length
 ·rw [AP xs k h,List.getElem?_eq_getElem h];rfl
 ·rw [List.take_of_length_le (by omega),List.take_of_length_le (by omega),List.getElem?_eq_none (by omega)];simp
theorem Oo:∀ (xs:List Nat) (p d:Nat),p<xs.length→val (xs.set p d)+B4 ^ p*xs[p]?.getD 0=val xs+B4 ^ p*d
 | [],p,d,h=>by simp at h
 | x :: xs,0,d,_=>by simp [gV];omega
 | x :: xs,p+1,d,h=>by
  have ih:=Oo xs p d (by simpa using h)
  simp only [List.set_cons_succ,gV,List.getElem?_cons_succ,Nat.pow_succ]
  generalize val (xs.set p d)=S at *
  generalize B4 ^ p=P at *
  generalize xs[p]?.getD 0=e at *
  generalize val xs=V at *
  generalize B4=B at *
  have:=congrArg (B * ·) ih
  grind
theorem Dig.set {xs:List Nat} (h:Dig xs) (p d:Nat) (hd:d<B4):Dig (xs.set p d):=fun e he=>by
 rcases List.mem_or_eq_of_mem_set he with h1 | h1
 ·exact h e h1
 ·omega
theorem Dig.snoc {xs:List Nat} (h:Dig xs) {d:Nat} (hd:d<B4):Dig (xs ++ [d]):=h.append fun e he=>by simp at he;omega
theorem Dig.cons {xs:List Nat} (h:Dig xs) {d:Nat} (hd:d<B4):Dig (d :: xs):=fun e he=>by
 rcases List.mem_cons.1 he with h1 | h1
 ·omega
 ·exact h e h1
structure jX (xs ys ds:List Nat) (k c:Nat):Prop where
 len:ds.length=k
 dig:Dig ds
 le:c≤1
 hk:k≤xs.length
 eq:val (xs.take k)+c*B4 ^ k=val ds+val (ys.take k)
theorem jX.start (xs ys:List Nat):jX xs ys [] 0 0:=⟨rfl,Dig.nil,by omega,by omega,by simp [val]⟩
theorem jX.step {xs ys ds:List Nat} {k c x y d c':Nat} (h:jX xs ys ds k c) (hlt:k<xs.length) (hx:xs[k]?.getD 0=x) (hy:ys[k]?.getD 0=y) (hd:d<B4) (hc:c'≤1) (e:x+c' * B4=d+y+c) :
  jX xs ys (ds ++ [d]) (k+1) c':=by
 refine ⟨by simp [h.len],h.dig.snoc hd,hc,hlt,?_⟩
 have h1:=h.eq
 rw [iV xs,iV ys,iK,h.len,Nat.pow_succ,hx,hy]
 generalize B4 ^ k=P at *
 generalize val (xs.take k)=X at *
 generalize val (ys.take k)=Y at *
 generalize val ds=D at *
 generalize B4=B at *
 have:=congrArg (P * ·) e
 grind
theorem jX.done {xs ys ds:List Nat} {c:Nat} (h:jX xs ys ds xs.length c) (hl:ys.length≤xs.length) (hv:val ys≤val xs):val ds=val xs - val ys:=by
 have h1:=h.eq
 rw [AO,List.take_of_length_le hl] at h1
 have h2:=aV h.dig
 rw [h.len] at h2
 have h3:=h.le
 rcases Nat.eq_zero_or_pos c with h0 | h0
 ·subst h0;omega
 ·obtain rfl:c=1:=by omega
  omega
theorem Vu {xs ys:List Nat} (dx:Dig xs) (ty:aC ys) (hv:val ys≤val xs):ys.length≤xs.length:=by
 rcases Nat.lt_or_ge xs.length ys.length with h | h
 ·have:=jJ dx ty h;omega
 ·exact h
structure pR (xs ys pk:List Nat) (i:Nat):Prop where
 len:pk.length=xs.length+ys.length
 dig:Dig pk
 zero:∀ j:Nat,i+ys.length≤j→pk[j]?.getD 0=0
 eq:val pk=val (xs.take i)*val ys
theorem pR.start (xs ys:List Nat):pR xs ys (List.replicate (xs.length+ys.length) 0) 0:=
 ⟨by simp,fun d hd=>by rw [List.eq_of_mem_replicate hd];exact jV,fun j _=>by rw [List.getElem?_replicate];split <;> rfl,by rw [uV];simp [val]⟩
structure pU (xs ys pk:List Nat) (i k c:Nat):Prop where
 len:pk.length=xs.length+ys.length
 dig:Dig pk
 zero:∀ j:Nat,i+ys.length≤j→i+k≤j→pk[j]?.getD 0=0
 lt:c<B4
 le:k≤ys.length∨k=ys.length+1∧c=0
 eq:val pk+c*B4 ^ (i+k)=val (xs.take i)*val ys+B4 ^ i*xs[i]?.getD 0*val (ys.take k)
theorem pR.inner {xs ys pk:List Nat} {i:Nat} (h:pR xs ys pk i):pU xs ys pk i 0 0:=
 ⟨h.len,h.dig,fun j h1 _=>h.zero j h1,jV,.inl (by omega),by rw [h.eq];simp [val]⟩
theorem pU.step {xs ys pk:List Nat} {i k c o x y d c':Nat} (h:pU xs ys pk i k c) (hi:i<xs.length) (hgo:k<ys.length∨0<c) (ho:pk[i+k]?.getD 0=o) (hx:xs[i]?.getD 0=x) (hy:ys[k]?.getD 0=y) (hyl:y<B4) (hxl:x<B4)
  (hd:d<B4) (e:o+c+x*y=d+c' * B4):i+k<pk.length∧pU xs ys (pk.set (i+k) d) i (k+1) c':=by
 have hk:k≤ys.length:=by
  rcases h.le with h1 | h1
  ·exact h1
  ·omega
 have hlt:i+k<pk.length:=by rw [h.len];omega
 have hol:o<B4:=ho ▸ h.dig.getD (i+k)
 have hcl:=h.lt
 refine ⟨hlt,by rw [List.length_set];exact h.len,h.dig.set _ _ hd,fun j h1 h2=>?_,?_,?_,?_⟩
 ·rw [List.getElem?_set_ne (by omega)]
  exact h.zero j h1 (by omega)
 ·have h1:x*y≤(B4 - 1)*(B4 - 1):=Nat.mul_le_mul (by omega) (by omega)
  unfold B4 at *
  omega
 ·rcases Nat.lt_or_ge k ys.length with h1 | h1
  ·exact .inl h1
  ·obtain rfl:k=ys.length:=by omega
   have o0:=h.zero (i+ys.length) (Nat.le_refl _) (Nat.le_refl _)
   rw [ho] at o0
   have y0:y=0:=by rw [← hy,List.getElem?_eq_none (Nat.le_refl _)];rfl
   subst o0 y0
   refine .inr ⟨rfl,?_⟩
   unfold B4 at *
   omega
 ·have h1:=Oo pk (i+k) d hlt
  have h2:=h.eq
  rw [ho] at h1
  rw [iV ys,hy,hx,show i+(k+1)=i+k+1 by omega,Nat.pow_succ]
  rw [hx] at h2
  have h3:B4 ^ (i+k)=B4 ^ i*B4 ^ k:=Nat.pow_add _ _ _
  rw [h3] at h1 h2 ⊢
  generalize val (pk.set (i+k) d)=S at *
  generalize val pk=V at *
  generalize val (xs.take i)*val ys=X at *
  generalize val (ys.take k)=Y at *
  generalize B4 ^ i=P at *
  generalize B4 ^ k=Q at *
  generalize B4=B at *
  have:=congrArg (P*Q * ·) e
  grind
theorem pU.done {xs ys pk:List Nat} {i k:Nat} (h:pU xs ys pk i k 0) (hk:ys.length≤k):pR xs ys pk (i+1):=by
 refine ⟨h.len,h.dig,fun j hj=>h.zero j (by omega) (by rcases h.le with h1 | h1 <;> omega),?_⟩
 have h1:=h.eq
 rw [List.take_of_length_le hk] at h1
 rw [iV xs]
 generalize val pk=V at *
 generalize val (xs.take i)=X at *
 generalize val ys=Y at *
 generalize B4 ^ i=P at *
 generalize xs[i]?.getD 0=x at *
 grind
structure pK (xs qs rs:List Nat) (m i:Nat):Prop where
 len:qs.length=xs.length
 dig:Dig qs
 zero:∀ j:Nat,j<i→qs[j]?.getD 0=0
 hi:i≤xs.length
 digR:Dig rs
 trim:aC rs
 lt:val rs<m
 eq:val (xs.drop i)=val (qs.drop i)*m+val rs
theorem pK.start (xs:List Nat) {m:Nat} (hm:0<m):pK xs (List.replicate xs.length 0) [] m xs.length:=
 ⟨by simp,fun d hd=>by rw [List.eq_of_mem_replicate hd];exact jV,fun j _=>by rw [List.getElem?_replicate];split <;> rfl,Nat.le_refl _,Dig.nil,fun h=>absurd rfl h,hm,by
  rw [List.drop_of_length_le (Nat.le_refl _),List.drop_of_length_le (by simp)];simp [val]⟩
theorem Td (xs:List Nat) (p d:Nat) (h:p<xs.length):(xs.set p d).drop p=d :: xs.drop (p+1):=by
 apply List.ext_getElem?
 intro j
 cases j with
 | zero=>simp [h]
 | succ j=>simp [List.getElem?_drop,List.getElem?_set_ne (show p≠p+(j+1) by omega)];congr 1;omega
theorem pK.step {xs qs rs ss:List Nat} {m i x k:Nat} (h:pK xs qs rs m (i+1)) (hx:xs[i]?.getD 0=x) (hd:Dig ss) (ht:aC ss) (hs:val ss<m) (hk:k<B4) (e:x+B4*val rs=k*m+val ss) :
  pK xs (qs.set i k) ss m i:=by
 have hi:=h.hi
 have hl:=h.len
 refine ⟨by rw [List.length_set];exact hl,h.dig.set _ _ hk,fun j hj=>by rw [List.getElem?_set_ne (by omega)];exact h.zero j (by omega),by omega,hd,ht,hs,?_⟩
 have h1:=h.eq
 rw [fD xs i (by omega),hx,h1,Td qs i k (by omega),gV]
 generalize val (qs.drop (i+1))=Q at *
 generalize val rs=R at *
 generalize val ss=S at *
 generalize B4=B at *
 grind
theorem Ux {R M T U P:Nat} (hT:P*T≤R) (hU:M<P*(U+1)):T / (U+1)*M≤R:=by
 have h1:T / (U+1)*M≤T / (U+1)*(P*(U+1)):=Nat.mul_le_mul_left _ (Nat.le_of_lt hU)
 have h2:T / (U+1)*(U+1)≤T:=Nat.div_mul_le_self _ _
 have h3:P*(T / (U+1)*(U+1))≤P*T:=Nat.mul_le_mul_left _ h2
 have h4:T / (U+1)*(P*(U+1))=P*(T / (U+1)*(U+1)):=by grind
 omega
theorem S9 (xs:List Nat) (f:Nat) (hf:f≤xs.length):B4 ^ f*val (xs.drop f)≤val xs:=by rw [cO xs f hf];omega
theorem Tc {xs:List Nat} (h:Dig xs) (f:Nat) (hf:f≤xs.length):val xs<B4 ^ f*(val (xs.drop f)+1):=by
 have h1:=aV (h.take f)
 rw [List.length_take,Nat.min_eq_left hf] at h1
 rw [cO xs f hf,Nat.mul_add]
 omega
theorem qm {x R m k:Nat} (hx:x<B4) (hR:R<m) (h:k*m≤x+B4*R):k<B4:=by
 rcases Nat.lt_or_ge k B4 with h1 | h1
 ·exact h1
 ·have h2:B4*m≤k*m:=Nat.mul_le_mul_right _ h1
  have h3:B4*(R+1)≤B4*m:=Nat.mul_le_mul_left _ hR
  rw [Nat.mul_add] at h3
  omega
structure lS (n:Nat) (ds:List Nat) (m:Nat):Prop where
 dig:Dig ds
 trim:m=0→aC ds
 eq:val ds+B4 ^ ds.length*m=n
 few:m*10000 ^ ds.length≤n
theorem lS.start (n:Nat):lS n [] n:=⟨Dig.nil,fun _ h=>absurd rfl h,by simp [val],by simp⟩
theorem lS.step {n m:Nat} {ds:List Nat} (h:lS n ds m) (hm:m≠0):lS n (ds ++ [m % 10000]) (m / 10000):=by
 have hd:m % 10000<B4:=Nat.mod_lt _ (by decide)
 have hdm:=Nat.div_add_mod m 10000
 refine ⟨h.dig.snoc hd,fun h0 hne=>?_,?_,?_⟩
 ·rw [show (ds ++ [m % 10000]).getLast hne=m % 10000 by simp]
  omega
 ·rw [iK,List.length_append,List.length_singleton,Nat.pow_succ]
  have h1:=h.eq
  rw [← jf] at hdm ⊢
  generalize B4 ^ ds.length=P at *
  generalize B4=B at *
  generalize m / B=a at *
  generalize m % B=b at *
  have:=congrArg (P * ·) hdm
  grind
 ·rw [List.length_append,List.length_singleton,Nat.pow_succ]
  have h1:=h.few
  have h2:m / 10000*10000≤m:=Nat.div_mul_le_self _ _
  have h3:m / 10000*10000*10000 ^ ds.length≤m*10000 ^ ds.length:=Nat.mul_le_mul_right _ h2
  have h4:m / 10000*(10000 ^ ds.length*10000)=m / 10000*10000*10000 ^ ds.length:=by grind
  omega
end Z4
namespace Z4
open Go.RowKit Go.Sort
abbrev E4 (d:Nat):Value:=.int .i64 (d:Int)
def aB (w:World) (b o:Nat) (xs:List Nat):Prop:=∀ j,j<xs.length→w.cell? ⟨b,o+j,none⟩=some (E4 (xs[j]?.getD 0))∧w.frozen? ⟨b,o+j,none⟩=false
def aj (w:World) (q b o:Nat) (xs:List Nat):World:=putRow E4 (Sort.ahead w q) b o xs.toArray
theorem xP (xs:List Nat) (j:Nat):xs.toArray[j]! = xs[j]?.getD 0:=by
 by_cases h:j<xs.length
 ·rw [getElem!_pos _ j (by simpa using h)];simp [h]
 ·rw [getElem!_neg _ j (by simpa using h),List.getElem?_eq_none (by omega)];rfl
theorem oJ {w:World} {b o:Nat} {xs:List Nat}:aB w b o xs↔Holds E4 w b o xs.toArray:=by
 unfold aB Holds
 simp only [List.size_toArray,xP]
theorem aB.ints {w:World} {b o:Nat} {xs:List Nat} (h:aB w b o xs):Ints w b o xs:=fun j hj=>(h j hj).1
theorem aB.below {B:Nat} {w w':World} {b o:Nat} {xs:List Nat} (h:aB w b o xs) (hb:Below B w w') (hB:b<B):aB w' b o xs:=
 fun j hj=>⟨(hb.cell (p:=⟨b,o+j,none⟩) hB).trans (h j hj).1,(hb.frozen (p:=⟨b,o+j,none⟩) hB).trans (h j hj).2⟩
theorem aB.drop {w:World} {b o:Nat} {xs:List Nat} (h:aB w b o xs) (k:Nat):aB w b (o+k) (xs.drop k):=fun j hj=>by
 have:=h (k+j) (by simp at hj;omega)
 rw [Nat.add_assoc,List.getElem?_drop]
 exact this
theorem aB.take {w:World} {b o:Nat} {xs:List Nat} (h:aB w b o xs) (k:Nat):aB w b o (xs.take k):=fun j hj=>by
 have hj':j<k∧j<xs.length:=by simp at hj;omega
 have:=h j hj'.2
 rw [List.getElem?_take_of_lt hj'.1]
 exact this
theorem jH (w:World) (b o:Nat) (xs:List Nat) (h:aB w b o xs):aj w 0 b o xs=w:=by
 unfold aj
 rw [ahead_zero]
 exact putRow_self E4 w b o xs.toArray (oJ.1 h)
theorem bH (w:World) (q b o:Nat) (xs ys:List Nat) (h:aB w b o xs) (hl:ys.length=xs.length):aB (aj w q b o ys) b o ys:=
 oJ.2 (holds_putRow E4 (Sort.ahead w q) b o xs.toArray ys.toArray (holds_ahead _ _ _ _ _ _ (oJ.1 h)) (by simpa using hl))
theorem iQ (w:World) (q b o:Nat) (xs:List Nat) (i x:Nat) (hi:i<xs.length):(aj w q b o xs).setCell ⟨b,o+i,none⟩ (.int .i64 (x:Int))=aj w q b o (xs.set i x):=by
 unfold aj
 rw [show (Value.int .i64 (x:Int))=E4 x from rfl,putRow_set E4 _ b o xs.toArray i x (by simpa using hi),List.setIfInBounds_toArray]
theorem wL (w:World) (m q b o:Nat) (xs:List Nat):(aj w m b o xs).drewN q=aj w (m+q) b o xs:=by
 show Sort.ahead (putRow E4 (Sort.ahead w m) b o xs.toArray) q=_
 rw [putRow_ahead E4 w m,ahead_ahead,← putRow_ahead]
 rfl
theorem uI (w:World) (m b o:Nat) (xs:List Nat):(aj w m b o xs).drew=aj w (m+1) b o xs:=wL w m 1 b o xs
theorem qY (w:World) (m q b o:Nat) (xs ys:List Nat) (h:ys.length=xs.length):aj (aj w m b o xs) q b o ys=aj w (m+q) b o ys:=by
 unfold aj
 rw [← putRow_ahead,putRow_putRow E4 _ b o xs.toArray ys.toArray (by simpa using h),ahead_ahead]
theorem dB (w:World) (q b o:Nat) (xs:List Nat) (a:Addr) (h:a.block≠b∨a.off<o∨o+xs.length≤a.off):(aj w q b o xs).cell? a=w.cell? a:=by
 unfold aj
 rw [cell?_putRow_other E4 _ b o xs.toArray a (by simpa using h),cell?_ahead]
theorem fM (w:World) (q b o:Nat) (xs:List Nat) (a:Addr):(aj w q b o xs).frozen? a=w.frozen? a:=by
 unfold aj
 rw [frozen?_putRow,frozen?_ahead]
@[simp] theorem size_putL (w:World) (q b o:Nat) (xs:List Nat):(aj w q b o xs).heap.size=w.heap.size:=by
 unfold aj
 rw [size_putRow]
 rfl
theorem Ints.aj {w:World} {q b o bb bo:Nat} {xs ys:List Nat} (h:Ints w bb bo ys) (hne:bb≠b∨bo+ys.length≤o∨o+xs.length≤bo):Ints (aj w q b o xs) bb bo ys:=fun j hj=>by
 rw [dB _ _ _ _ _ _ (by simp only;omega)]
 exact h j hj
theorem aB.aj {w:World} {q b o bb bo:Nat} {xs ys:List Nat} (h:aB w bb bo ys) (hne:bb≠b∨bo+ys.length≤o∨o+xs.length≤bo):aB (aj w q b o xs) bb bo ys:=fun j hj=>by
 rw [dB _ _ _ _ _ _ (by simp only;omega),fM]
 exact h j hj
theorem yY (w:World) (q b o:Nat) (xs:List Nat) (k:Nat) (h:k≠b):(aj w q b o xs).heap[k]? = w.heap[k]?:=by
 unfold Go.Proofs.YtancpaiaoamjlaaGreatDoor.Z4.aj putRow mapBlock Sort.ahead
 simp only [Array.getElem?_modify]
 rw [if_neg (by omega)]
theorem dV {B:Nat} (w:World) (q b o:Nat) (xs:List Nat) (h:B≤b):Below B w (aj w q b o xs):=
 ⟨rfl,rfl,rfl,by simp,fun k hk=>yY _ _ _ _ _ _ (by omega)⟩
theorem oK:(Tryz.prog.info? 3).map (fun i=>(i.zero,i.size,i.bytes))=some (some (.int .i64 0),1,8):=by kernel_rfl
def aI (w:World) (n:Nat):World:=w.alloc (.cells (madeCells #[.int .i64 0] n) 3)
theorem dG (w:World) (n:Nat):(aI w n).heap.size=w.heap.size+1:=by unfold aI;simp
theorem ig (n:Nat) (hn:n≤2199023255552) (w:World) :
  (Instr.makeSlice 33 (.int .i64 (n:Int)) (.int .i64 (n:Int))).run Tryz.prog w=.ok (.slice (some ⟨w.heap.size,0,none⟩) n n) (aI w n):=
 run_make_row' 33 3 _ 8 Tryz.underlying33 oK rfl .i64 .i64 n (by omega) (by omega) w
theorem dP (w:World) (n:Nat):aB (aI w n) w.heap.size 0 (List.replicate n 0):=fun j hj=>by
 have hj':j<n:=by simpa using hj
 unfold aI
 rw [World.cell?_alloc_at _ _ _ _ rfl,World.frozen?_alloc_at _ _ _ _ rfl]
 refine ⟨?_,rfl⟩
 simp only [madeCells,Nat.zero_add,Array.getElem?_map,List.getElem?_replicate,hj',if_true]
 rw [Array.getElem?_eq_getElem (by simpa using hj')]
 simp [Nat.mod_one]
theorem bG (w:World) (n:Nat):Below w.heap.size w (aI w n):=(Below.refl _ _).alloc (Nat.le_refl _) _
theorem addr_add (b o k:Nat):(⟨b,o,none⟩:Addr).add k=⟨b,o+k,none⟩:=by unfold Addr.add;split <;> simp_all
end Z4
namespace Z4
open Go.RowKit Go.Sort
def jY (w:World) (n:Nat) (e:Ending) (w':World):Prop:=∃ v ds,e=.returned v∧IsL w.heap.size w' v ds∧Dig ds∧aC ds∧val ds=n∧Below w.heap.size w w'
theorem nG {B:Nat} (v:Value) (xs:List Nat) (w:World) (h:IsL B w v xs) (hsz:xs.length≤1099511627776) :
  Calls Tryz.prog 104 #[v] w fun e w'=>∃ v' n,e=.returned v'∧dN xs n∧IsL B w v' (xs.take n)∧w=w':=by
 rcases h with ⟨rfl,rfl⟩ | ⟨b,o,k,rfl,h1,h2,h3,h4⟩
 ·refine (AB none 0 0 0 [] w (fun h=>absurd rfl h) (fun j hj=>by simp at hj) (by simp) (by simp)).mono ?_
  rintro e w' ⟨n,rfl,ht,rfl⟩
  obtain rfl:n=0:=by have:=ht.1;simpa using this
  exact ⟨_,0,rfl,ht,.inl ⟨rfl,rfl⟩,rfl⟩
 ·refine (AB _ b o k xs w (fun _=>rfl) h4 h3 hsz).mono ?_
  rintro e w' ⟨n,rfl,ht,rfl⟩
  have hl:(xs.take n).length=n:=by rw [List.length_take];exact Nat.min_eq_left ht.1
  have:=ht.1
  exact ⟨_,n,rfl,ht,.inr ⟨b,o,k,by rw [hl],h1,h2,by omega,h4.take n⟩,rfl⟩
theorem xE {B B2:Nat} (v v2:Value) (xs ys:List Nat) (w:World) (h:IsL B w v xs) (h2:IsL B2 w v2 ys) (dx:Dig xs) (dy:Dig ys) (tx:aC xs) (ty:aC ys) (hsz:xs.length≤1099511627776) (hsz2:ys.length≤1099511627776) :
  Calls Tryz.prog 74 #[v,v2] w fun e w'=>e=.returned (.int .i64 (aG (val xs) (val ys)))∧∃ q,w' = w.drewN q:=by
 obtain ⟨p,b,o,k,rfl,hp,hb,hk,hx⟩:=h.shape
 obtain ⟨p2,b2,o2,k2,rfl,hp2,hb2,hk2,hy⟩:=h2.shape
 exact Pm p p2 b o k b2 o2 k2 xs ys w hp hx hp2 hy dx dy tx ty hsz hsz2
theorem GI {B:Nat} (v:Value) (f:Nat) (xs:List Nat) (w:World) (h:IsL B w v xs) (dx:Dig xs) (hsz:xs.length≤1099511627776) (hf:f≤xs.length) (hl:xs.length - f≤4) :
  Calls Tryz.prog 105 #[v,.int .i64 (f:Int)] w fun e w'=>e=.returned (.int .i64 ((val (xs.drop f):Nat):Int))∧w=w':=by
 obtain ⟨p,b,o,k,rfl,hp,hb,hk,hx⟩:=h.shape
 exact ZT p b o k f xs w hp hx dx hsz hf hl
abbrev enc (d:Nat):Value:=.int .i64 (d:Int)
theorem jI (ds:List Nat) (d:Nat):(ds ++ [d]).map enc=ds.map enc ++ [.int .i64 (d:Int)]:=by simp
theorem VW (b o k b2 o2 k2:Nat) (xs ys:List Nat) (w:World) (hbw:b<w.heap.size) (hx:Ints w b o xs) (hbw2:b2<w.heap.size) (hy:Ints w b2 o2 ys)
  (dx:Dig xs) (dy:Dig ys) (hl:ys.length≤xs.length) (hv:val ys≤val xs) (hsz:xs.length≤1099511627776) :
  Calls Tryz.prog 88 #[.slice (some ⟨b,o,none⟩) xs.length k,.slice (some ⟨b2,o2,none⟩) ys.length k2] w (jY w (val xs - val ys)):=by
 have HP:=hid (And.intro hbw hx)
 have HP2:=hid (And.intro hbw2 hy)
 have HV:=hid (And.intro hl (And.intro hv hl))
 clear hbw hbw2 hx hy hv
 obtain ⟨i0,hi,hz0,hz1,hz2⟩:=info_parts oK
 obtain ⟨V,hV⟩:∃ V,val xs - val ys=V:=⟨_,rfl⟩
 rw [hV]
 have HVV:=hid hV
 clear hV
 go_enter Tryz.func88,Tryz.ntmps88
 go_wp2
 go_loopw [5,6,7] (fun ov cv iv wr=>∃ (i c:Nat) (ds:List Nat),iv=.int .i64 i∧cv=.int .i64 c∧wr.ownsRow w.heap.size 3 1 ov i (ds.map enc)∧jX xs ys ds i c∧Below w.heap.size w wr) (fun _ _ iv _=>xs.length - (intOf iv).toNat)
 case atStart=>exact ⟨0,0,[],rfl,rfl,World.ownsRow_nil _ _ _ _,jX.start xs ys,Below.refl _ _⟩
 case round =>
  obtain ⟨i,c,ds,rfl,rfl,hown,hI,hB⟩:=hrel
  have hc1:=hI.le
  have hik:=hI.hk
  by_cases hlt:i<xs.length
  ·obtain ⟨x,hxi⟩:∃ x,xs[i]?.getD 0=x:=⟨_,rfl⟩
   obtain ⟨y,hyi⟩:∃ y,ys[i]?.getD 0=y:=⟨_,rfl⟩
   have hx1:x<10000:=hxi ▸ dx.getD i
   have hy1:y<10000:=hyi ▸ dy.getD i
   have cx:wr.cell? ⟨b,o+i,none⟩=some (.int .i64 (x:Int)):=by rw [hB.cell (p:=⟨b,o+i,none⟩) (HP.out.1),HP.out.2 i hlt,hxi]
   have HI:=hid (fun (d c':Nat) (hd:d<B4) (hc:c'≤1) (e:x+c' * B4=d+y+c)=>hI.step hlt hxi hyi hd hc e)
   have HB:=hid hB
   have HO:=hid hown
   by_cases hiy:i<ys.length
   ·have cy:wr.cell? ⟨b2,o2+i,none⟩=some (.int .i64 (y:Int)):=by rw [hB.cell (p:=⟨b2,o2+i,none⟩) (HP2.out.1),HP2.out.2 i hiy,hyi]
    clear hI hxi hyi
    by_cases hs:(x:Int) - (c:Int) - (y:Int)<0
    ·obtain ⟨d,hd⟩:∃ d:Nat,(d:Int)=(x:Int) - (c:Int) - (y:Int)+10000:=⟨((x:Int) - (c:Int) - (y:Int)+10000).toNat,by omega⟩
     have hd1:d<10000:=by omega
     have hs2:(x:Int) - (c:Int)<(y:Int):=by omega
     have HN:=hid (HI.out d 1 hd1 (by omega) (by rw [jf];omega))
     have HD:=hid hd
     clear hd
     go_wp2_with (first
      | (at_builtin;refine wpList_append_own _ rfl _ _ 33 rfl w.heap.size 3 i0 (.int .i64 0) 1 8 Tryz.underlying33 hi hz0 hz1 hz2 rfl (by decide) _ _ _ rfl (HO.out.alloc _) ⟨wr.heap.size,0,none⟩ 1 1 [.int .i64 (d:Int)] rfl rfl ?c1 ?c2 ?c3 ?c4 ?c5 ?_))
     case c1 =>
      intro j u hj
      match j,hj with
      | 0,hj=>simp at hj;subst hj;first | (simp;have:=HD.out;omega) | (simp [Addr.add];have:=HD.out;omega)
     case c2=>first | rfl | (intro u hu;simp at hu;subst hu;rfl)
     case c3=>unfold maxLen;omega
     case c4=>omega
     case c5=>have:=HB.out.size;simp;omega
     intro v' w1 hown' hgrow _
     have hB2:Below w.heap.size w w1:=(HB.out.alloc HB.out.size _).grown hgrow (by have:=HB.out.size;simp;omega) (fun k hk=>(HO.out.lt k hk).1)
     rw [← jI] at hown'
     have HO2:=hid hown'
     have HB2:=hid hB2
     clear hown' hgrow hB2
     go_wp2
     go_roundw
     case rel=>exact ⟨i+1,1,ds ++ [d],by go_num,rfl,HO2.out,HN.out,HB2.out⟩
     case measure=>simp [intOf];omega
    ·obtain ⟨d,hd⟩:∃ d:Nat,(d:Int)=(x:Int) - (c:Int) - (y:Int):=⟨((x:Int) - (c:Int) - (y:Int)).toNat,by omega⟩
     have hd1:d<10000:=by omega
     have hs2:¬ (x:Int) - (c:Int)<(y:Int):=by omega
     have hs3:(y:Int)≤(x:Int) - (c:Int):=by omega
     have HN:=hid (HI.out d 0 hd1 (by omega) (by rw [jf];omega))
     have HD:=hid hd
     clear hd
     go_wp2_with (first
      | (at_builtin;refine wpList_append_own _ rfl _ _ 33 rfl w.heap.size 3 i0 (.int .i64 0) 1 8 Tryz.underlying33 hi hz0 hz1 hz2 rfl (by decide) _ _ _ rfl (HO.out.alloc _) ⟨wr.heap.size,0,none⟩ 1 1 [.int .i64 (d:Int)] rfl rfl ?c1 ?c2 ?c3 ?c4 ?c5 ?_))
     case c1 =>
      intro j u hj
      match j,hj with
      | 0,hj=>simp at hj;subst hj;first | (simp;have:=HD.out;omega) | (simp [Addr.add];have:=HD.out;omega)
     case c2=>first | rfl | (intro u hu;simp at hu;subst hu;rfl)
     case c3=>unfold maxLen;omega
     case c4=>omega
     case c5=>have:=HB.out.size;simp;omega
     intro v' w1 hown' hgrow _
     have hB2:Below w.heap.size w w1:=(HB.out.alloc HB.out.size _).grown hgrow (by have:=HB.out.size;simp;omega) (fun k hk=>(HO.out.lt k hk).1)
     rw [← jI] at hown'
     have HO2:=hid hown'
     have HB2:=hid hB2
     clear hown' hgrow hB2
     go_wp2
     go_roundw
     case rel=>exact ⟨i+1,0,ds ++ [d],by go_num,rfl,HO2.out,HN.out,HB2.out⟩
     case measure=>simp [intOf];omega
   ·obtain rfl:y=0:=by rw [← hyi,List.getElem?_eq_none (by omega)];rfl
    clear hI hxi hyi
    by_cases hs:(x:Int) - (c:Int)<0
    ·obtain ⟨d,hd⟩:∃ d:Nat,(d:Int)=(x:Int) - (c:Int)+10000:=⟨((x:Int) - (c:Int)+10000).toNat,by omega⟩
     have hd1:d<10000:=by omega
     have hs2:x<c:=by omega
     have HN:=hid (HI.out d 1 hd1 (by omega) (by rw [jf];omega))
     have HD:=hid hd
     clear hd
     go_wp2_with (first
      | (at_builtin;refine wpList_append_own _ rfl _ _ 33 rfl w.heap.size 3 i0 (.int .i64 0) 1 8 Tryz.underlying33 hi hz0 hz1 hz2 rfl (by decide) _ _ _ rfl (HO.out.alloc _) ⟨wr.heap.size,0,none⟩ 1 1 [.int .i64 (d:Int)] rfl rfl ?c1 ?c2 ?c3 ?c4 ?c5 ?_))
     case c1 =>
      intro j u hj
      match j,hj with
      | 0,hj=>simp at hj;subst hj;first | (simp;have:=HD.out;omega) | (simp [Addr.add];have:=HD.out;omega)
     case c2=>first | rfl | (intro u hu;simp at hu;subst hu;rfl)
     case c3=>unfold maxLen;omega
     case c4=>omega
     case c5=>have:=HB.out.size;simp;omega
     intro v' w1 hown' hgrow _
     have hB2:Below w.heap.size w w1:=(HB.out.alloc HB.out.size _).grown hgrow (by have:=HB.out.size;simp;omega) (fun k hk=>(HO.out.lt k hk).1)
     rw [← jI] at hown'
     have HO2:=hid hown'
     have HB2:=hid hB2
     clear hown' hgrow hB2
     go_wp2
     go_roundw
     case rel=>exact ⟨i+1,1,ds ++ [d],by go_num,rfl,HO2.out,HN.out,HB2.out⟩
     case measure=>simp [intOf];omega
    ·obtain ⟨d,hd⟩:∃ d:Nat,(d:Int)=(x:Int) - (c:Int):=⟨((x:Int) - (c:Int)).toNat,by omega⟩
     have hd1:d<10000:=by omega
     have hs2:¬ x<c:=by omega
     have hs3:c≤x:=by omega
     have HN:=hid (HI.out d 0 hd1 (by omega) (by rw [jf];omega))
     have HD:=hid hd
     clear hd
     go_wp2_with (first
      | (at_builtin;refine wpList_append_own _ rfl _ _ 33 rfl w.heap.size 3 i0 (.int .i64 0) 1 8 Tryz.underlying33 hi hz0 hz1 hz2 rfl (by decide) _ _ _ rfl (HO.out.alloc _) ⟨wr.heap.size,0,none⟩ 1 1 [.int .i64 (d:Int)] rfl rfl ?c1 ?c2 ?c3 ?c4 ?c5 ?_))
     case c1 =>
      intro j u hj
      match j,hj with
      | 0,hj=>simp at hj;subst hj;first | (simp;have:=HD.out;omega) | (simp [Addr.add];have:=HD.out;omega)
     case c2=>first | rfl | (intro u hu;simp at hu;subst hu;rfl)
     case c3=>unfold maxLen;omega
     case c4=>omega
     case c5=>have:=HB.out.size;simp;omega
     intro v' w1 hown' hgrow _
     have hB2:Below w.heap.size w w1:=(HB.out.alloc HB.out.size _).grown hgrow (by have:=HB.out.size;simp;omega) (fun k hk=>(HO.out.lt k hk).1)
     rw [← jI] at hown'
     have HO2:=hid hown'
     have HB2:=hid hB2
     clear hown' hgrow hB2
     go_wp2
     go_roundw
     case rel=>exact ⟨i+1,0,ds ++ [d],by go_num,rfl,HO2.out,HN.out,HB2.out⟩
     case measure=>simp [intOf];omega
  ·obtain rfl:i=xs.length:=by omega
   have hD:=hid (hI.done HV.out.1 HV.out.2.1)
   have hds:ds.length=xs.length:=hI.len
   have HL:=hid (IsL.of_own hown)
   have HI:=hid hI
   have HB:=hid hB
   have hds2:ds.length≤1099511627776:=by omega
   have HDS:=hid hds2
   clear hI hds hown hds2 hB
   go_wp2_with fail
   refine (nG _ ds _ HL.out HDS.out).mono ?_
   rintro e w' ⟨v',n,rfl,ht,hv',rfl⟩
   have HT:=hid (And.intro ht hv')
   clear ht hv'
   go_wp2
   go_ret
   exact ⟨_,_,rfl,HT.out.2,HI.out.dig.take n,HT.out.1.trimmed,by rw [HT.out.1.val,hD.out,HVV.out],HB.out⟩
theorem VY (p2:Option Addr) (b o k k2:Nat) (xs:List Nat) (w:World) (hbw:b<w.heap.size) (hx:Ints w b o xs)
  (dx:Dig xs) (hsz:xs.length≤1099511627776) :
  Calls Tryz.prog 88 #[.slice (some ⟨b,o,none⟩) xs.length k,.slice p2 0 k2] w (jY w (val xs - val [])):=by
 have HP:=hid (And.intro hbw hx)
 have HV:=hid (And.intro (Nat.zero_le xs.length:([]:List Nat).length≤xs.length) (And.intro (Nat.zero_le (val xs):val []≤val xs) trivial))
 clear hbw hx
 obtain ⟨i0,hi,hz0,hz1,hz2⟩:=info_parts oK
 obtain ⟨V,hV⟩:∃ V,val xs - val []=V:=⟨_,rfl⟩
 rw [hV]
 have HVV:=hid hV
 clear hV
 go_enter Tryz.func88,Tryz.ntmps88
 go_wp2
 go_loopw [5,6,7] (fun ov cv iv wr=>∃ (i c:Nat) (ds:List Nat),iv=.int .i64 i∧cv=.int .i64 c∧wr.ownsRow w.heap.size 3 1 ov i (ds.map enc)∧jX xs [] ds i c∧Below w.heap.size w wr) (fun _ _ iv _=>xs.length - (intOf iv).toNat)
 case atStart=>exact ⟨0,0,[],rfl,rfl,World.ownsRow_nil _ _ _ _,jX.start xs [],Below.refl _ _⟩
 case round =>
  obtain ⟨i,c,ds,rfl,rfl,hown,hI,hB⟩:=hrel
  have hc1:=hI.le
  have hik:=hI.hk
  by_cases hlt:i<xs.length
  ·obtain ⟨x,hxi⟩:∃ x,xs[i]?.getD 0=x:=⟨_,rfl⟩
   obtain ⟨y,hyi⟩:∃ y,([]:List Nat)[i]?.getD 0=y:=⟨_,rfl⟩
   have hx1:x<10000:=hxi ▸ dx.getD i
   have cx:wr.cell? ⟨b,o+i,none⟩=some (.int .i64 (x:Int)):=by rw [hB.cell (p:=⟨b,o+i,none⟩) (HP.out.1),HP.out.2 i hlt,hxi]
   have HI:=hid (fun (d c':Nat) (hd:d<B4) (hc:c'≤1) (e:x+c' * B4=d+y+c)=>hI.step hlt hxi hyi hd hc e)
   have HB:=hid hB
   have HO:=hid hown
   obtain rfl:y=0:=by rw [← hyi];rfl
   clear hI hxi hyi
   by_cases hs:(x:Int) - (c:Int)<0
   ·obtain ⟨d,hd⟩:∃ d:Nat,(d:Int)=(x:Int) - (c:Int)+10000:=⟨((x:Int) - (c:Int)+10000).toNat,by omega⟩
    have hd1:d<10000:=by omega
    have hs2:x<c:=by omega
    have HN:=hid (HI.out d 1 hd1 (by omega) (by rw [jf];omega))
    have HD:=hid hd
    clear hd
    go_wp2_with (first
     | (at_builtin;refine wpList_append_own _ rfl _ _ 33 rfl w.heap.size 3 i0 (.int .i64 0) 1 8 Tryz.underlying33 hi hz0 hz1 hz2 rfl (by decide) _ _ _ rfl (HO.out.alloc _) ⟨wr.heap.size,0,none⟩ 1 1 [.int .i64 (d:Int)] rfl rfl ?c1 ?c2 ?c3 ?c4 ?c5 ?_))
    case c1 =>
     intro j u hj
     match j,hj with
     | 0,hj=>simp at hj;subst hj;first | (simp;have:=HD.out;omega) | (simp [Addr.add];have:=HD.out;omega)
    case c2=>first | rfl | (intro u hu;simp at hu;subst hu;rfl)
    case c3=>unfold maxLen;omega
    case c4=>omega
    case c5=>have:=HB.out.size;simp;omega
    intro v' w1 hown' hgrow _
    have hB2:Below w.heap.size w w1:=(HB.out.alloc HB.out.size _).grown hgrow (by have:=HB.out.size;simp;omega) (fun k hk=>(HO.out.lt k hk).1)
    rw [← jI] at hown'
    have HO2:=hid hown'
    have HB2:=hid hB2
    clear hown' hgrow hB2
    go_wp2
    go_roundw
    case rel=>exact ⟨i+1,1,ds ++ [d],by go_num,rfl,HO2.out,HN.out,HB2.out⟩
    case measure=>simp [intOf];omega
   ·obtain ⟨d,hd⟩:∃ d:Nat,(d:Int)=(x:Int) - (c:Int):=⟨((x:Int) - (c:Int)).toNat,by omega⟩
    have hd1:d<10000:=by omega
    have hs2:¬ x<c:=by omega
    have hs3:c≤x:=by omega
    have HN:=hid (HI.out d 0 hd1 (by omega) (by rw [jf];omega))
    have HD:=hid hd
    clear hd
    go_wp2_with (first
     | (at_builtin;refine wpList_append_own _ rfl _ _ 33 rfl w.heap.size 3 i0 (.int .i64 0) 1 8 Tryz.underlying33 hi hz0 hz1 hz2 rfl (by decide) _ _ _ rfl (HO.out.alloc _) ⟨wr.heap.size,0,none⟩ 1 1 [.int .i64 (d:Int)] rfl rfl ?c1 ?c2 ?c3 ?c4 ?c5 ?_))
    case c1 =>
     intro j u hj
     match j,hj with
     | 0,hj=>simp at hj;subst hj;first | (simp;have:=HD.out;omega) | (simp [Addr.add];have:=HD.out;omega)
    case c2=>first | rfl | (intro u hu;simp at hu;subst hu;rfl)
    case c3=>unfold maxLen;omega
    case c4=>omega
    case c5=>have:=HB.out.size;simp;omega
    intro v' w1 hown' hgrow _
    have hB2:Below w.heap.size w w1:=(HB.out.alloc HB.out.size _).grown hgrow (by have:=HB.out.size;simp;omega) (fun k hk=>(HO.out.lt k hk).1)
    rw [← jI] at hown'
    have HO2:=hid hown'
    have HB2:=hid hB2
    clear hown' hgrow hB2
    go_wp2
    go_roundw
    case rel=>exact ⟨i+1,0,ds ++ [d],by go_num,rfl,HO2.out,HN.out,HB2.out⟩
    case measure=>simp [intOf];omega
  ·obtain rfl:i=xs.length:=by omega
   have hD:=hid (hI.done HV.out.1 HV.out.2.1)
   have hds:ds.length=xs.length:=hI.len
   have HL:=hid (IsL.of_own hown)
   have HI:=hid hI
   have HB:=hid hB
   have hds2:ds.length≤1099511627776:=by omega
   have HDS:=hid hds2
   clear hI hds hown hds2 hB
   go_wp2_with fail
   refine (nG _ ds _ HL.out HDS.out).mono ?_
   rintro e w' ⟨v',n,rfl,ht,hv',rfl⟩
   have HT:=hid (And.intro ht hv')
   clear ht hv'
   go_wp2
   go_ret
   exact ⟨_,_,rfl,HT.out.2,HI.out.dig.take n,HT.out.1.trimmed,by rw [HT.out.1.val,hD.out,HVV.out],HB.out⟩
theorem VX (p p2:Option Addr) (k k2:Nat) (w:World):Calls Tryz.prog 88 #[.slice p 0 k,.slice p2 0 k2] w (jY w 0):=by
 go_enter Tryz.func88,Tryz.ntmps88
 go_wp2
 refine wp_loop_rounds 1 ?_
 rw [rounds_succ]
 go_wp2_with fail
 refine (nG _ [] _ (IsL.nil w.heap.size _) (by simp)).mono ?_
 rintro e w' ⟨v',n,rfl,ht,hv',rfl⟩
 have HT:=hid (And.intro ht hv')
 clear ht hv'
 go_wp2
 go_ret
 exact ⟨_,_,rfl,HT.out.2,Dig.nil.take n,HT.out.1.trimmed,by rw [HT.out.1.val];rfl,Below.refl _ _⟩
theorem qO {B B2:Nat} (v v2:Value) (xs ys:List Nat) (w:World) (h:IsL B w v xs) (h2:IsL B2 w v2 ys) (dx:Dig xs) (dy:Dig ys) (ty:aC ys) (hv:val ys≤val xs) (hsz:xs.length≤1099511627776) :
  Calls Tryz.prog 88 #[v,v2] w (jY w (val xs - val ys)):=by
 have hl:=Vu dx ty hv
 obtain ⟨p,b,o,k,rfl,hp,hb,hk,hx⟩:=h.shape
 obtain ⟨p2,b2,o2,k2,rfl,hp2,hb2,hk2,hy⟩:=h2.shape
 by_cases h0:xs.length=0
 ·obtain rfl:xs=[]:=List.length_eq_zero_iff.1 h0
  obtain rfl:ys=[]:=List.length_eq_zero_iff.1 (by simpa using hl)
  exact VX p p2 k k2 w
 ·rw [hp h0]
  by_cases h1:ys.length=0
  ·obtain rfl:ys=[]:=List.length_eq_zero_iff.1 h1
   exact VY p2 b o k k2 xs w (hb h0) hx dx hsz
  ·rw [hp2 h1]
   exact VW b o k b2 o2 k2 xs ys w (hb h0) hx (hb2 h1) hy dx dy hl hv hsz
end Z4
namespace Z4
open Go.RowKit Go.Sort
theorem Aa {W:World} {base:Nat} {e:TypeId} {v:Value} {k:Nat} {xs:List Value} (h:W.ownsRow base e 1 v (k+1) xs):∃ g cap,v=.slice (some ⟨g,0,none⟩) (k+1) cap:=by
 rcases h.2 with ⟨_,h0⟩ | ⟨g,cap,cur,rfl,_⟩
 ·omega
 ·exact ⟨g,cap,rfl⟩
theorem FB {W:World} {base:Nat} {e:TypeId} {v:Value} {k:Nat} {xs:List Value} (h:W.ownsRow base e 1 v k xs):∃ p cap,v=.slice p k cap:=by
 rcases h.2 with ⟨rfl,rfl⟩ | ⟨g,cap,cur,rfl,_⟩ <;> exact ⟨_,_,rfl⟩
structure ZB (w W:World) (t:Bool) (v:Value):Prop where
 c0:W.cell? ⟨w.heap.size+1,0,none⟩=some (.bool t)
 c1:W.cell? ⟨w.heap.size+1,1,none⟩=some v
 f0:W.frozen? ⟨w.heap.size+1,0,none⟩=false
 f1:W.frozen? ⟨w.heap.size+1,1,none⟩=false
 r0:W.cell? ⟨w.heap.size,0,none⟩=some (.bool false)
 r1:W.cell? ⟨w.heap.size,1,none⟩=some (.slice none 0 0)
 g0:W.frozen? ⟨w.heap.size,0,none⟩=false
 g1:W.frozen? ⟨w.heap.size,1,none⟩=false
 sz:w.heap.size+2≤W.heap.size
 bel:Below w.heap.size w W
theorem ZB.start (w:World) (t:Bool) (T:TypeId):ZB w ((w.alloc (.cells #[.bool false,.slice none 0 0] T)).alloc (.cells #[.bool t,.slice none 0 0] T)) t (.slice none 0 0):=by
 have hb:=((Below.refl w.heap.size w).alloc (Nat.le_refl _) (.cells #[.bool false,.slice none 0 0] T)).alloc (by simp) (.cells #[.bool t,.slice none 0 0] T)
 refine ⟨?_,?_,?_,?_,?_,?_,?_,?_,by simp,hb⟩ <;> go_simp
theorem ZB.next {w W W1:World} {t:Bool} {v:Value} (h:ZB w W t v) (hb:Below (w.heap.size+2) W W1):ZB w W1 t v where
 c0:=(hb.cell (p:=⟨w.heap.size+1,0,none⟩) (by simp)).trans h.c0
 c1:=(hb.cell (p:=⟨w.heap.size+1,1,none⟩) (by simp)).trans h.c1
 f0:=(hb.frozen (p:=⟨w.heap.size+1,0,none⟩) (by simp)).trans h.f0
 f1:=(hb.frozen (p:=⟨w.heap.size+1,1,none⟩) (by simp)).trans h.f1
 r0:=(hb.cell (p:=⟨w.heap.size,0,none⟩) (by simp)).trans h.r0
 r1:=(hb.cell (p:=⟨w.heap.size,1,none⟩) (by simp)).trans h.r1
 g0:=(hb.frozen (p:=⟨w.heap.size,0,none⟩) (by simp)).trans h.g0
 g1:=(hb.frozen (p:=⟨w.heap.size,1,none⟩) (by simp)).trans h.g1
 sz:=Nat.le_trans h.sz hb.size
 bel:=h.bel.trans (hb.mono (by omega))
theorem ZB.store {w W:World} {t:Bool} {v:Value} (h:ZB w W t v) (u:Value):ZB w (W.setCell ⟨w.heap.size+1,1,none⟩ u) t u where
 c0:=by rw [World.cell?_setCell_other _ _ _ _ (by simp)];exact h.c0
 c1:=World.cell?_setCell_same _ _ _ h.c1
 f0:=by rw [World.frozen?_setCell];exact h.f0
 f1:=by rw [World.frozen?_setCell];exact h.f1
 r0:=by rw [World.cell?_setCell_other _ _ _ _ (by simp)];exact h.r0
 r1:=by rw [World.cell?_setCell_other _ _ _ _ (by simp)];exact h.r1
 g0:=by rw [World.frozen?_setCell];exact h.g0
 g1:=by rw [World.frozen?_setCell];exact h.g1
 sz:=by simpa using h.sz
 bel:=h.bel.setCell (by simp) _
def Bo (w:World) (n:Int) (e:Ending) (w':World):Prop:=∃ s ds,e=.returned (.agg #[.bool (decide (n<0)),s])∧IsL w.heap.size w' s ds∧Dig ds∧aC ds∧val ds=n.natAbs∧Below w.heap.size w w'
theorem aai (m0:Nat) (hm0:m0≤9223372036854775807) (w:World):Calls Tryz.prog 36 #[.int .i64 ((m0:Int))] w
  (fun e w'=>∃ s ds,e=.returned (.agg #[.bool false,s])∧IsL w.heap.size w' s ds∧Dig ds∧aC ds∧val ds=m0∧Below w.heap.size w w'):=by
 obtain ⟨i0,hi,hz0,hz1,hz2⟩:=info_parts oK
 have H0:=hid (ZB.start w false 35)
 go_enter Tryz.func36,Tryz.ntmps36
 go_wp2_with fail
 try rw [show decide ((m0:Int)<0)=false from decide_eq_false (by omega)]
 go_loopw [0,4] (fun nv _ wr=>∃ (m:Nat) (v:Value) (ds:List Nat),nv=.int .i64 (m:Int)∧wr.ownsRow (w.heap.size+2) 3 1 v ds.length (ds.map enc)∧lS m0 ds m∧ZB w wr false v) (fun nv _ _=>(intOf nv).natAbs)
 case atStart=>exact ⟨m0,.slice none 0 0,[],rfl,World.ownsRow_nil _ _ _ _,lS.start m0,H0.out⟩
 case round =>
  clear H0
  obtain ⟨m,v,ds,rfl,hown,hI,hZ⟩:=hrel
  obtain ⟨p,cap,rfl⟩:=FB hown
  have HZ:=hid hZ
  have HO:=hid hown
  have HI:=hid hI
  obtain ⟨c0,c1,f0,f1,r0,r1,g0,g1,hsz,-⟩:=hZ
  by_cases h0:m=0
  ·subst h0
   have HL:=hid (IsL.of_own hown)
   clear hown hI
   have hb:=(HZ.out.bel.setCell (p:=⟨w.heap.size,0,none⟩) (Nat.le_refl _) (.bool false)).setCell (p:=⟨w.heap.size,1,none⟩) (Nat.le_refl _) (.slice p ds.length cap)
   have HB:=hid hb
   have HL2:Hid (IsL w.heap.size ((wr.setCell ⟨w.heap.size,0,none⟩ (.bool false)).setCell ⟨w.heap.size,1,none⟩ (.slice p ds.length cap)) (.slice p ds.length cap) ds):=
    (IsL.of_own (ownsRow_setCell_below (ownsRow_setCell_below HO.out (a:=⟨w.heap.size,0,none⟩) (by simp) _) (a:=⟨w.heap.size,1,none⟩) (by simp) _)).mono (by omega)
   clear hb
   go_wp2
   exact bodyPost_ret (v:=.agg #[.bool false,.slice p ds.length cap]) (by simp [results,Tryz.results36,go_sem];go_simp) rfl ⟨_,_,rfl,HL2.out,HI.out.dig,HI.out.trim rfl,by have:=HI.out.eq;simpa using this,HB.out⟩
  ·obtain ⟨d,hd⟩:∃ d,m % 10000=d:=⟨_,rfl⟩
   obtain ⟨q,hq⟩:∃ q,m / 10000=q:=⟨_,rfl⟩
   have HS:=hid (hI.step h0)
   rw [hd,hq] at HS
   have hlen:ds.length≤32:=by
    rcases Nat.lt_or_ge 32 ds.length with hl | hl
    ·have h1:=hI.few
     have h2:10000 ^ 5≤10000 ^ ds.length:=Nat.pow_le_pow_right (by decide) (by omega)
     have h3:1*10000 ^ ds.length≤m*10000 ^ ds.length:=Nat.mul_le_mul_right _ (by omega)
     have h4:10000 ^ 5=100000000000000000000:=by decide
     omega
    ·exact hl
   have hmm:m≤9223372036854775808:=by
    have h1:=hI.few
    have h2:1≤10000 ^ ds.length:=Nat.one_le_pow _ _ (by decide)
    have h3:m*1≤m*10000 ^ ds.length:=Nat.mul_le_mul_left _ h2
    omega
   have hd1:d<10000:=by omega
   have HQ:Hid (q<m):=by show _<_;omega
   have hq1:q≤922337203685477581:=by omega
   have e0:((m:Int) != 0)=true:=by rw [bne_iff_ne];omega
   have e1:(m:Int) % 10000=(d:Int):=by rw [← hd];omega
   have e2:(m:Int) / 10000=(q:Int):=by rw [← hq];omega
   clear hown hI hd hq hmm
   ·have t1:¬ ((d:Int)<0):=by omega
    go_wp2_with (first
     | (at_builtin;refine wpList_append_own _ rfl _ _ 33 rfl (w.heap.size+2) 3 i0 (.int .i64 0) 1 8 Tryz.underlying33 hi hz0 hz1 hz2 rfl (by decide) _ _ _ rfl (HO.out.alloc _) ⟨wr.heap.size,0,none⟩ 1 1 [.int .i64 (d:Int)] rfl rfl ?c1 ?c2 ?c3 ?c4 ?c5 ?_))
    try (case c1 =>
     intro j u hj
     match j,hj with
     | 0,hj=>simp at hj;subst hj;first | simp | simp [Addr.add])
    case c2=>first | rfl | (intro u hu;simp at hu;subst hu;rfl)
    case c3=>first | (unfold maxLen;omega) | omega
    case c4=>omega
    case c5=>first | omega | (simp;omega)
    intro v' w1 hown' hgrow _
    obtain ⟨g',cap',rfl⟩:=Aa hown'
    have hB2:Below (w.heap.size+2) wr w1:=((Below.refl _ wr).alloc hsz _).grown hgrow (by simp;omega) (fun k hk=>(HO.out.lt k hk).1)
    have hZ1:=HZ.out.next hB2
    rw [← jI] at hown'
    have HO2:=hid (ownsRow_setCell_below hown' (a:=⟨w.heap.size+1,1,none⟩) (by simp) (.slice (some ⟨g',0,none⟩) (ds.length+1) cap'))
    have HZ2:=hid (hZ1.store (.slice (some ⟨g',0,none⟩) (ds.length+1) cap'))
    clear c0 c1 f0 f1 r0 r1 g0 g1 hsz hown' hgrow hB2
    obtain ⟨c0,c1,f0,f1,r0,r1,g0,g1,hsz,-⟩:=hZ1
    go_wp2
    go_roundw
    case rel=>exact ⟨q,_,ds ++ [d],by first | rfl | go_num,by rw [List.length_append];exact HO2.out,HS.out,HZ2.out⟩
    case measure=>have:=HQ.out;simp [intOf];omega
theorem aah (m0:Nat) (hm0:m0≤9223372036854775808) (hm1:0<m0) (w:World):Calls Tryz.prog 36 #[.int .i64 (-(m0:Int))] w
  (fun e w'=>∃ s ds,e=.returned (.agg #[.bool true,s])∧IsL w.heap.size w' s ds∧Dig ds∧aC ds∧val ds=m0∧Below w.heap.size w w'):=by
 obtain ⟨i0,hi,hz0,hz1,hz2⟩:=info_parts oK
 have H0:=hid (ZB.start w true 35)
 go_enter Tryz.func36,Tryz.ntmps36
 go_wp2_with fail
 try rw [show decide ((m0:Int)<0)=false from decide_eq_false (by omega)]
 go_loopw [0,4] (fun nv _ wr=>∃ (m:Nat) (v:Value) (ds:List Nat),nv=.int .i64 (-(m:Int))∧wr.ownsRow (w.heap.size+2) 3 1 v ds.length (ds.map enc)∧lS m0 ds m∧ZB w wr true v) (fun nv _ _=>(intOf nv).natAbs)
 case atStart=>exact ⟨m0,.slice none 0 0,[],rfl,World.ownsRow_nil _ _ _ _,lS.start m0,H0.out⟩
 case round =>
  clear H0
  obtain ⟨m,v,ds,rfl,hown,hI,hZ⟩:=hrel
  obtain ⟨p,cap,rfl⟩:=FB hown
  have HZ:=hid hZ
  have HO:=hid hown
  have HI:=hid hI
  obtain ⟨c0,c1,f0,f1,r0,r1,g0,g1,hsz,-⟩:=hZ
  by_cases h0:m=0
  ·subst h0
   have HL:=hid (IsL.of_own hown)
   clear hown hI
   have hb:=(HZ.out.bel.setCell (p:=⟨w.heap.size,0,none⟩) (Nat.le_refl _) (.bool true)).setCell (p:=⟨w.heap.size,1,none⟩) (Nat.le_refl _) (.slice p ds.length cap)
   have HB:=hid hb
   have HL2:Hid (IsL w.heap.size ((wr.setCell ⟨w.heap.size,0,none⟩ (.bool true)).setCell ⟨w.heap.size,1,none⟩ (.slice p ds.length cap)) (.slice p ds.length cap) ds):=
    (IsL.of_own (ownsRow_setCell_below (ownsRow_setCell_below HO.out (a:=⟨w.heap.size,0,none⟩) (by simp) _) (a:=⟨w.heap.size,1,none⟩) (by simp) _)).mono (by omega)
   clear hb
   go_wp2
   exact bodyPost_ret (v:=.agg #[.bool true,.slice p ds.length cap]) (by simp [results,Tryz.results36,go_sem];go_simp) rfl ⟨_,_,rfl,HL2.out,HI.out.dig,HI.out.trim rfl,by have:=HI.out.eq;simpa using this,HB.out⟩
  ·obtain ⟨d,hd⟩:∃ d,m % 10000=d:=⟨_,rfl⟩
   obtain ⟨q,hq⟩:∃ q,m / 10000=q:=⟨_,rfl⟩
   have HS:=hid (hI.step h0)
   rw [hd,hq] at HS
   have hlen:ds.length≤32:=by
    rcases Nat.lt_or_ge 32 ds.length with hl | hl
    ·have h1:=hI.few
     have h2:10000 ^ 5≤10000 ^ ds.length:=Nat.pow_le_pow_right (by decide) (by omega)
     have h3:1*10000 ^ ds.length≤m*10000 ^ ds.length:=Nat.mul_le_mul_right _ (by omega)
     have h4:10000 ^ 5=100000000000000000000:=by decide
     omega
    ·exact hl
   have hmm:m≤9223372036854775808:=by
    have h1:=hI.few
    have h2:1≤10000 ^ ds.length:=Nat.one_le_pow _ _ (by decide)
    have h3:m*1≤m*10000 ^ ds.length:=Nat.mul_le_mul_left _ h2
    omega
   have hd1:d<10000:=by omega
   have HQ:Hid (q<m):=by show _<_;omega
   have hq1:q≤922337203685477581:=by omega
   have e0:((-(m:Int)) != 0)=true:=by rw [bne_iff_ne];omega
   have e1:(-(m:Int)).tmod 10000 = -(d:Int):=by rw [Int.neg_tmod,Int.tmod_eq_emod_of_nonneg (by omega),← hd];omega
   have e1':(m:Int).tmod 10000=(d:Int):=by rw [Int.tmod_eq_emod_of_nonneg (by omega),← hd];omega
   have e2:(-(m:Int)).tdiv 10000 = -(q:Int):=by rw [Int.neg_tdiv,Int.tdiv_eq_ediv_of_nonneg (by omega),← hq];omega
   have e2':(m:Int).tdiv 10000=(q:Int):=by rw [Int.tdiv_eq_ediv_of_nonneg (by omega),← hq];omega
   clear hown hI hd hq hmm
   by_cases hd0:d=0
   ·have t1:¬ (-(d:Int)<0):=by omega
    have t2:¬ (0<d):=by omega
    have HD0:=hid hd0
    clear hd0
    go_wp2_with (first
     | (at_builtin;refine wpList_append_own _ rfl _ _ 33 rfl (w.heap.size+2) 3 i0 (.int .i64 0) 1 8 Tryz.underlying33 hi hz0 hz1 hz2 rfl (by decide) _ _ _ rfl (HO.out.alloc _) ⟨wr.heap.size,0,none⟩ 1 1 [.int .i64 (-(d:Int))] rfl rfl ?c1 ?c2 ?c3 ?c4 ?c5 ?_))
    try (case c1 =>
     intro j u hj
     match j,hj with
     | 0,hj=>simp at hj;subst hj;first | simp | simp [Addr.add])
    case c2=>first | rfl | (intro u hu;simp at hu;subst hu;rfl)
    case c3=>first | (unfold maxLen;omega) | omega
    case c4=>omega
    case c5=>first | omega | (simp;omega)
    intro v' w1 hown' hgrow _
    obtain ⟨g',cap',rfl⟩:=Aa hown'
    have hB2:Below (w.heap.size+2) wr w1:=((Below.refl _ wr).alloc hsz _).grown hgrow (by simp;omega) (fun k hk=>(HO.out.lt k hk).1)
    have hZ1:=HZ.out.next hB2
    rw [show (-(d:Int))=(d:Int) from by have:=HD0.out;omega] at hown'
    rw [← jI] at hown'
    have HO2:=hid (ownsRow_setCell_below hown' (a:=⟨w.heap.size+1,1,none⟩) (by simp) (.slice (some ⟨g',0,none⟩) (ds.length+1) cap'))
    have HZ2:=hid (hZ1.store (.slice (some ⟨g',0,none⟩) (ds.length+1) cap'))
    clear c0 c1 f0 f1 r0 r1 g0 g1 hsz hown' hgrow hB2
    obtain ⟨c0,c1,f0,f1,r0,r1,g0,g1,hsz,-⟩:=hZ1
    go_wp2
    go_roundw
    case rel=>exact ⟨q,_,ds ++ [d],by first | rfl | go_num,by rw [List.length_append];exact HO2.out,HS.out,HZ2.out⟩
    case measure=>have:=HQ.out;simp [intOf];omega
   ·have t1:-(d:Int)<0:=by omega
    have t2:0<d:=by omega
    go_wp2_with (first
     | (at_builtin;refine wpList_append_own _ rfl _ _ 33 rfl (w.heap.size+2) 3 i0 (.int .i64 0) 1 8 Tryz.underlying33 hi hz0 hz1 hz2 rfl (by decide) _ _ _ rfl (HO.out.alloc _) ⟨wr.heap.size,0,none⟩ 1 1 [.int .i64 (d:Int)] rfl rfl ?k1 ?k2 ?k3 ?k4 ?k5 ?_))
    try (case k1 =>
     intro j u hj
     match j,hj with
     | 0,hj=>simp at hj;subst hj;first | simp | simp [Addr.add])
    case k2=>first | rfl | (intro u hu;simp at hu;subst hu;rfl)
    case k3=>first | (unfold maxLen;omega) | omega
    case k4=>omega
    case k5=>first | omega | (simp;omega)
    intro v' w1 hown' hgrow _
    obtain ⟨g',cap',rfl⟩:=Aa hown'
    have hB2:Below (w.heap.size+2) wr w1:=((Below.refl _ wr).alloc hsz _).grown hgrow (by simp;omega) (fun k hk=>(HO.out.lt k hk).1)
    have hZ1:=HZ.out.next hB2
    rw [← jI] at hown'
    have HO2:=hid (ownsRow_setCell_below hown' (a:=⟨w.heap.size+1,1,none⟩) (by simp) (.slice (some ⟨g',0,none⟩) (ds.length+1) cap'))
    have HZ2:=hid (hZ1.store (.slice (some ⟨g',0,none⟩) (ds.length+1) cap'))
    clear c0 c1 f0 f1 r0 r1 g0 g1 hsz hown' hgrow hB2
    obtain ⟨c0,c1,f0,f1,r0,r1,g0,g1,hsz,-⟩:=hZ1
    go_wp2
    go_roundw
    case rel=>exact ⟨q,_,ds ++ [d],by first | rfl | go_num,by rw [List.length_append];exact HO2.out,HS.out,HZ2.out⟩
    case measure=>have:=HQ.out;simp [intOf];omega
theorem rV (n:Int) (h1:-9223372036854775808≤n) (h2:n≤9223372036854775807) (w:World):Calls Tryz.prog 36 #[.int .i64 n] w (Bo w n):=by
 by_cases h:n<0
 ·obtain ⟨m,rfl⟩:∃ m:Nat,n = -(m:Int):=⟨n.natAbs,by omega⟩
  refine (aah m (by omega) (by omega) w).mono ?_
  rintro e w' ⟨s,ds,rfl,a,b,c,d,f⟩
  exact ⟨s,ds,by rw [decide_eq_true h],a,b,c,by rw [d];omega,f⟩
 ·obtain ⟨m,rfl⟩:∃ m:Nat,n=(m:Int):=⟨n.natAbs,by omega⟩
  refine (aai m (by omega) w).mono ?_
  rintro e w' ⟨s,ds,rfl,a,b,c,d,f⟩
  exact ⟨s,ds,by rw [decide_eq_false h],a,b,c,by rw [d];omega,f⟩
end Z4
end Go.Proofs.YtancpaiaoamjlaaGreatDoor
