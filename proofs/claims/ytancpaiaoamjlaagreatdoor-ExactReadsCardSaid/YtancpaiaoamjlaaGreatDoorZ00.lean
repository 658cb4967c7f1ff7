/- What the proof rests on, part 0. -/
import Derived.WalkKit
import Derived.WalkLawsBesides
import Derived.WalkSpells
import Derived.Outline
import Derived.Deep.QuietTactic
import Derived.BigQuiet
import Derived.BigRegion
import Derived.Deep.RegionWith
import Derived.Deep.RegionHeld3
import Derived.StillTailTactics
import Derived.Deep.LoopGhost
import Derived.Test.YtancpaiaoamjlaaGreatDoorProg
import Derived.Laws.Externs
import Derived.Shelf.Spec.BitsCarry
import Derived.Lib.Mul64
import Derived.Shelf.Bits.Mul64
import Derived.Sort.Row
import Derived.Sort.Walk0
import Derived.Deep.Draws
import Derived.CellFam
namespace Go.Proofs.YtancpaiaoamjlaaGreatDoor
set_option maxRecDepth 100000
set_option maxHeartbeats 80000000
section
def B64:Nat:=18446744073709551616
theorem aT:0<B64:=by decide
def val:List Nat→Nat
 | []=>0
 | d :: ds=>d+B64*val ds
def Dig (xs:List Nat):Prop:=∀ d,d∈xs→d<B64
theorem iU:val []=0:=rfl
theorem gV (d:Nat) (ds:List Nat):val (d :: ds)=d+B64*val ds:=rfl
theorem val_append (xs ys:List Nat):val (xs ++ ys)=val xs+B64 ^ xs.length*val ys:=by
 induction xs with
 | nil=>simp [val]
 | cons x xs ih=>simp only [List.cons_append,gV,ih,List.length_cons,Nat.pow_succ,Nat.mul_add];rw [Nat.mul_comm (B64 ^ xs.length) B64,Nat.mul_assoc];omega
theorem iK (xs:List Nat) (d:Nat):val (xs ++ [d])=val xs+B64 ^ xs.length*d:=by
 rw [val_append];simp [val]
theorem Dig.nil:Dig []:=fun _ h=>by simp at h
theorem Dig.append {xs ys:List Nat} (h:Dig xs) (k:Dig ys):Dig (xs ++ ys):=fun d hd=>by
 rcases List.mem_append.1 hd with h1 | h1
 ·exact h d h1
 ·exact k d h1
theorem Dig.left {xs ys:List Nat} (h:Dig (xs ++ ys)):Dig xs:=fun d hd=>h d (by simp [hd])
theorem Dig.right {xs ys:List Nat} (h:Dig (xs ++ ys)):Dig ys:=fun d hd=>h d (by simp [hd])
theorem Dig.take {xs:List Nat} (h:Dig xs) (k:Nat):Dig (xs.take k):=fun d hd=>h d (List.mem_of_mem_take hd)
theorem Dig.drop {xs:List Nat} (h:Dig xs) (k:Nat):Dig (xs.drop k):=fun d hd=>h d (List.mem_of_mem_drop hd)
theorem Dig.get {xs:List Nat} (h:Dig xs) (k:Nat) (hk:k<xs.length):xs[k]<B64:=h _ (List.getElem_mem hk)
theorem Dig.getD {xs:List Nat} (h:Dig xs) (k:Nat):xs[k]?.getD 0<B64:=by
 by_cases hk:k<xs.length
 ·rw [List.getElem?_eq_getElem hk];exact h.get k hk
 ·rw [List.getElem?_eq_none (by omega)];exact aT
theorem aV {xs:List Nat} (h:Dig xs):val xs<B64 ^ xs.length:=by
 induction xs with
 | nil=>simp [val]
 | cons x xs ih =>
  have hx:=h x (by simp)
  have ht:=ih (fun d hd=>h d (by simp [hd]))
  rw [gV,List.length_cons,Nat.pow_succ,Nat.mul_comm _ B64]
  calc x+B64*val xs<B64+B64*val xs:=by omega
   _=B64*(val xs+1):=by rw [Nat.mul_add];omega
   _≤B64*B64 ^ xs.length:=Nat.mul_le_mul_left _ ht
theorem AP (xs:List Nat) (k:Nat) (hk:k<xs.length):val (xs.take (k+1))=val (xs.take k)+B64 ^ k*xs[k]:=by
 rw [List.take_succ_eq_append_getElem hk,iK,List.length_take,Nat.min_eq_left (by omega)]
theorem cO (xs:List Nat) (k:Nat) (hk:k≤xs.length):val xs=val (xs.take k)+B64 ^ k*val (xs.drop k):=by
 conv=>lhs;rw [← List.take_append_drop k xs]
 rw [val_append,List.length_take,Nat.min_eq_left hk]
theorem uV (n:Nat):val (List.replicate n 0)=0:=by
 induction n with
 | zero=>rfl
 | succ n ih=>rw [List.replicate_succ,gV,ih];rfl
def aC (xs:List Nat):Prop:=∀ h:xs≠[],xs.getLast h≠0
theorem lM {xs:List Nat} (h:aC xs) (hne:xs≠[]):B64 ^ (xs.length - 1)≤val xs:=by
 have hl:=h hne
 obtain ⟨ys,d,rfl⟩:∃ ys d,xs=ys ++ [d]:=⟨xs.dropLast,xs.getLast hne,(List.dropLast_concat_getLast hne).symm⟩
 rw [iK]
 simp at hl ⊢
 calc B64 ^ ys.length=B64 ^ ys.length*1:=by omega
  _≤B64 ^ ys.length*d:=Nat.mul_le_mul_left _ (by omega)
  _≤_:=by omega
theorem nH {xs:List Nat} (h:aC xs) (hne:xs≠[]):0<val xs:=
 Nat.lt_of_lt_of_le (Nat.pow_pos aT) (lM h hne)
theorem jJ {xs ys:List Nat} (hx:Dig xs) (hy:aC ys) (hl:xs.length<ys.length):val xs<val ys:=by
 have h1:=aV hx
 have h2:=lM hy (by intro e;simp [e] at hl)
 have h3:B64 ^ xs.length≤B64 ^ (ys.length - 1):=Nat.pow_le_pow_right aT (by omega)
 omega
end
section
open Go.RowKit
theorem hid {p:Prop} (h:p):Hid p:=h
def aF (w:World) (b o:Nat) (xs:List Nat):Prop:=∀ j,j<xs.length→w.cell? ⟨b,o+j,none⟩=some (.int .u64 ((xs[j]?.getD 0:Nat):Int))
theorem aF.below {B:Nat} {w w':World} {b o:Nat} {xs:List Nat} (h:aF w b o xs) (hb:Below B w w') (hB:b<B):aF w' b o xs:=
 fun j hj=>(hb.cell (p:=⟨b,o+j,none⟩) hB).trans (h j hj)
def ah (w:World) (c d:Value) (n:Nat):Prop:=
 (n<B64∧c=.int .u64 (n:Int)∧d=.slice none 0 0) ∨
  ∃ (b o k:Nat) (xs:List Nat),c=.int .u64 0∧d=.slice (some ⟨b,o,none⟩) xs.length k∧b<w.heap.size∧2≤xs.length∧xs.length≤k∧Dig xs∧aC xs∧val xs=n∧aF w b o xs
theorem ah.below {w w':World} {c d:Value} {n:Nat} (h:ah w c d n) (hb:Below w.heap.size w w'):ah w' c d n:=by
 rcases h with h | ⟨b,o,k,xs,h1,h2,h3,h4,h5,h6,h7,h8,h9⟩
 ·exact .inl h
 ·exact .inr ⟨b,o,k,xs,h1,h2,by have:=hb.size;omega,h4,h5,h6,h7,h8,h9.below hb h3⟩
theorem ah.mono {B:Nat} {w w':World} {c d:Value} {n:Nat} (h:ah w c d n) (hb:Below B w w') (hB:w.heap.size≤B):ah w' c d n:=h.below (hb.mono hB)
def bM (r:Rat):Nat:=if r.den=1 then 0 else r.den
def IsQ (w:World) (v:Value) (r:Rat):Prop:=
 ∃ c d e f,v=.agg #[.bool (decide (r.num<0)),c,d,e,f]∧ah w c d r.num.natAbs∧ah w e f (bM r)
theorem IsQ.below {w w':World} {v:Value} {r:Rat} (h:IsQ w v r) (hb:Below w.heap.size w w'):IsQ w' v r:=by
 obtain ⟨c,d,e,f,rfl,h1,h2⟩:=h
 exact ⟨c,d,e,f,rfl,h1.below hb,h2.below hb⟩
def bC (w:World) (r:Rat) (e:Ending) (w':World):Prop:=∃ v,e=.returned v∧IsQ w' v r∧Below w.heap.size w w'
def Fits (k:Nat) (r:Rat):Prop:=r.num.natAbs<B64 ^ k∧r.den<B64 ^ k
theorem cB {B:Nat} {W W':World} {b o:Nat} {v:Value} (h:Below B W W') (hc:W.cell? ⟨b,o,none⟩=some v) (hb:b<B):W'.cell? ⟨b,o,none⟩=some v:=(h.cell (p:=⟨b,o,none⟩) hb).trans hc
end
section
open Go.RowKit
abbrev C5 (w:World) (b:Nat) (v0 v1 v2 v3 v4:Value):Prop:=
 w.cell? ⟨b,0,none⟩=some v0∧w.cell? ⟨b,1,none⟩=some v1∧w.cell? ⟨b,2,none⟩=some v2∧w.cell? ⟨b,3,none⟩=some v3∧w.cell? ⟨b,4,none⟩=some v4
theorem C5.below {w w':World} {b B:Nat} {v0 v1 v2 v3 v4:Value} (h:C5 w b v0 v1 v2 v3 v4) (hb:Below B w w') (hB:b<B):C5 w' b v0 v1 v2 v3 v4:=
 ⟨(hb.cell (p:=⟨b,0,none⟩) hB).trans h.1,(hb.cell (p:=⟨b,1,none⟩) hB).trans h.2.1,(hb.cell (p:=⟨b,2,none⟩) hB).trans h.2.2.1,(hb.cell (p:=⟨b,3,none⟩) hB).trans h.2.2.2.1,(hb.cell (p:=⟨b,4,none⟩) hB).trans h.2.2.2.2⟩
end
section
open Go.RowKit
def bF (x y c:Nat):Nat:=(x+y+c) % B64
def dX (x y c:Nat):Nat:=(x+y+c) / B64
def jS (x y b:Nat):Nat:=(x+B64 - y - b) % B64
def iT (x y b:Nat):Nat:=if x<y+b then 1 else 0
def iq (x y:Nat):Nat:=x*y / B64
def mulL (x y:Nat):Nat:=x*y % B64
theorem lV (x y c:Nat):bF x y c+B64*dX x y c=x+y+c:=Nat.mod_add_div _ _
theorem nP (x y c:Nat):bF x y c<B64:=Nat.mod_lt _ aT
theorem xG (x y c:Nat) (hx:x<B64) (hy:y<B64) (hc:c≤1):dX x y c≤1:=by
 unfold dX
 rw [← Nat.lt_succ_iff,Nat.div_lt_iff_lt_mul aT]
 unfold B64 at *
 omega
theorem Az (x y b:Nat) (hx:x<B64) (hy:y<B64) (hb:b≤1):jS x y b+y+b=x+B64*iT x y b:=by
 unfold jS iT
 unfold B64 at *
 split <;> omega
theorem wV (x y b:Nat):jS x y b<B64:=Nat.mod_lt _ aT
theorem Gy (x y b:Nat):iT x y b≤1:=by unfold iT;split <;> omega
theorem qQ (x y:Nat):mulL x y+B64*iq x y=x*y:=Nat.mod_add_div _ _
theorem zT (x y:Nat):mulL x y<B64:=Nat.mod_lt _ aT
theorem La (x y:Nat) (hx:x<B64) (hy:y<B64):iq x y+2≤B64:=by
 have h1:x*y≤(B64 - 1)*(B64 - 1):=Nat.mul_le_mul (by omega) (by omega)
 have h2:iq x y≤(B64 - 1)*(B64 - 1) / B64:=Nat.div_le_div_right h1
 have h3:(B64 - 1)*(B64 - 1) / B64+2≤B64:=by decide
 omega
theorem BG (x y c:Nat) (hc:c≤1) (w:World) :
  (callFunc 106 #[.int .u64 (x:Int),.int .u64 (y:Int),.int .u64 (c:Int)]).run Tryz.prog w=.ok (.value (.tuple #[.int .u64 ((bF x y c:Nat):Int),.int .u64 ((dX x y c:Nat):Int)])) w:=by
 rw [run_callFunc_extern (fn:=Tryz.f106) Tryz.func106 (by kernel_rfl) (by kernel_rfl) (by kernel_rfl) (e:=add64Entry) (by kernel_rfl),run_add64 x y c (by omega) (by omega) (by omega) (by omega)]
 simp only [Result.andThen]
 unfold bF dX B64
 congr 5 <;> omega
theorem rZ (x y:Nat) (w:World) :
  (callFunc 106 #[.int .u64 (x:Int),.int .u64 (y:Int),.int .u64 0]).run Tryz.prog w=.ok (.value (.tuple #[.int .u64 ((bF x y 0:Nat):Int),.int .u64 ((dX x y 0:Nat):Int)])) w:=
 BG x y 0 (by omega) w
theorem Pv (x c:Nat) (hc:c≤1) (w:World) :
  (callFunc 106 #[.int .u64 (x:Int),.int .u64 0,.int .u64 (c:Int)]).run Tryz.prog w=.ok (.value (.tuple #[.int .u64 ((bF x 0 c:Nat):Int),.int .u64 ((dX x 0 c:Nat):Int)])) w:=
 BG x 0 c hc w
theorem Gx (x y c:Nat) (hc:c≤1) (w:World) :
  (callFunc 155 #[.int .u64 (x:Int),.int .u64 (y:Int),.int .u64 (c:Int)]).run Tryz.prog w=.ok (.value (.tuple #[.int .u64 ((jS x y c:Nat):Int),.int .u64 ((iT x y c:Nat):Int)])) w:=by
 rw [run_callFunc_extern (fn:=Tryz.f155) Tryz.func155 (by kernel_rfl) (by kernel_rfl) (by kernel_rfl) (e:=sub64Entry) (by kernel_rfl),run_sub64 x y c hc]
 simp only [Result.andThen]
 unfold jS iT B64
 rfl
theorem N7 (x y:Nat) (w:World) :
  (callFunc 155 #[.int .u64 (x:Int),.int .u64 (y:Int),.int .u64 0]).run Tryz.prog w=.ok (.value (.tuple #[.int .u64 ((jS x y 0:Nat):Int),.int .u64 ((iT x y 0:Nat):Int)])) w:=
 Gx x y 0 (by omega) w
theorem ZK (x c:Nat) (hc:c≤1) (w:World) :
  (callFunc 155 #[.int .u64 (x:Int),.int .u64 0,.int .u64 (c:Int)]).run Tryz.prog w=.ok (.value (.tuple #[.int .u64 ((jS x 0 c:Nat):Int),.int .u64 ((iT x 0 c:Nat):Int)])) w:=
 Gx x 0 c hc w
theorem pJ (x y:Nat) (hx:x<B64) (hy:y<B64) (w:World) :
  Calls Tryz.prog 84 #[.int .u64 (x:Int),.int .u64 (y:Int)] w fun e w'=>e=.returned (.tuple #[.int .u64 ((iq x y:Nat):Int),.int .u64 ((mulL x y:Nat):Int)])∧w=w':=by
 unfold iq mulL
 unfold B64 at *
 obtain ⟨bd,bt,bw,hhi⟩:=Lib.mul64_hi x y hx hy
 have ba:=Lib.half_mul_le (a:=x / 4294967296) (b:=y / 4294967296) (by omega) (by omega)
 have bb:=Lib.half_mul_le (a:=x / 4294967296) (b:=y % 4294967296) (by omega) (by omega)
 have bc:=Lib.half_mul_le (a:=x % 4294967296) (b:=y / 4294967296) (by omega) (by omega)
 have ba':x / 4294967296*(y / 4294967296)<18446744073709551616:=by omega
 have bb':x / 4294967296*(y % 4294967296)<18446744073709551616:=by omega
 have bc':x % 4294967296*(y / 4294967296)<18446744073709551616:=by omega
 have bh1:x / 4294967296*(y / 4294967296)+(x / 4294967296*(y % 4294967296)+x % 4294967296*(y % 4294967296) / 4294967296) / 4294967296<18446744073709551616:=by omega
 have bh:x / 4294967296*(y / 4294967296)+(x / 4294967296*(y % 4294967296)+x % 4294967296*(y % 4294967296) / 4294967296) / 4294967296+((x / 4294967296*(y % 4294967296)+x % 4294967296*(y % 4294967296) / 4294967296) % 4294967296+x % 4294967296*(y / 4294967296)) / 4294967296<18446744073709551616:=by omega
 go_enter Tryz.func84,Tryz.ntmps84
 go_wp2
 simp only [Mul64.maskN x hx,Mul64.maskN y hy,Mul64.divN,Mul64.mulN,Mul64.addN,Mul64.wrapN _ bd,Mul64.wrapN _ bb',Mul64.wrapN _ bt,Mul64.maskN _ bt,Mul64.wrapN _ bc',Mul64.wrapN _ bw,Mul64.wrapN _ ba',Mul64.wrapN _ bh1,Mul64.wrapN _ bh,Mul64.wrapM (x*y)]
 rw [hhi]
 go_ret2
 exact ⟨rfl,rfl⟩
end
section
open Go.RowKit Go.Sort
abbrev E64 (d:Nat):Value:=.int .u64 (d:Int)
def aB (w:World) (b o:Nat) (xs:List Nat):Prop:=∀ j,j<xs.length→w.cell? ⟨b,o+j,none⟩=some (E64 (xs[j]?.getD 0))∧w.frozen? ⟨b,o+j,none⟩=false
def aj (w:World) (q b o:Nat) (xs:List Nat):World:=putRow E64 (Sort.ahead w q) b o xs.toArray
theorem xP (xs:List Nat) (j:Nat):xs.toArray[j]! = xs[j]?.getD 0:=by
 by_cases h:j<xs.length
 ·rw [getElem!_pos _ j (by simpa using h)];simp [h]
 ·rw [getElem!_neg _ j (by simpa using h),List.getElem?_eq_none (by omega)];rfl
theorem oJ {w:World} {b o:Nat} {xs:List Nat}:aB w b o xs↔Holds E64 w b o xs.toArray:=by
 unfold aB Holds
 simp only [List.size_toArray,xP]
theorem aB.aK {w:World} {b o:Nat} {xs:List Nat} (h:aB w b o xs):aF w b o xs:=fun j hj=>(h j hj).1
theorem aB.below {B:Nat} {w w':World} {b o:Nat} {xs:List Nat} (h:aB w b o xs) (hb:Below B w w') (hB:b<B):aB w' b o xs:=
 fun j hj=>⟨(hb.cell (p:=⟨b,o+j,none⟩) hB).trans (h j hj).1,(hb.frozen (p:=⟨b,o+j,none⟩) hB).trans (h j hj).2⟩
theorem aB.drop {w:World} {b o:Nat} {xs:List Nat} (h:aB w b o xs) (k:Nat):aB w b (o+k) (xs.drop k):=fun j hj=>by
 have:=h (k+j) (by simp at hj;omega)
 rw [Nat.add_assoc,List.getElem?_drop]
 exact this
theorem aB.take {w:World} {b o:Nat} {xs:List Nat} (h:aB w b o xs) (k:Nat):aB w b o (xs.take k):=fun j hj=>by
 have hj':j<k∧j<xs.length:=by simp at hj;omega
 have:=h j hj'.2
 rw [List.getElem?_take_of_lt hj'.1]
 exact this
theorem jH (w:World) (b o:Nat) (xs:List Nat) (h:aB w b o xs):aj w 0 b o xs=w:=by
 unfold aj
 rw [ahead_zero]
 exact putRow_self E64 w b o xs.toArray (oJ.1 h)
theorem bH (w:World) (q b o:Nat) (xs ys:List Nat) (h:aB w b o xs) (hl:ys.length=xs.length):aB (aj w q b o ys) b o ys:=
 oJ.2 (holds_putRow E64 (Sort.ahead w q) b o xs.toArray ys.toArray (holds_ahead _ _ _ _ _ _ (oJ.1 h)) (by simpa using hl))
theorem iQ (w:World) (q b o:Nat) (xs:List Nat) (i x:Nat) (hi:i<xs.length):(aj w q b o xs).setCell ⟨b,o+i,none⟩ (.int .u64 (x:Int))=aj w q b o (xs.set i x):=by
 unfold aj
 rw [show (Value.int .u64 (x:Int))=E64 x from rfl,putRow_set E64 _ b o xs.toArray i x (by simpa using hi),List.setIfInBounds_toArray]
theorem wL (w:World) (m q b o:Nat) (xs:List Nat):(aj w m b o xs).drewN q=aj w (m+q) b o xs:=by
 show Sort.ahead (putRow E64 (Sort.ahead w m) b o xs.toArray) q=_
 rw [putRow_ahead E64 w m,ahead_ahead,← putRow_ahead]
 rfl
theorem uI (w:World) (m b o:Nat) (xs:List Nat):(aj w m b o xs).drew=aj w (m+1) b o xs:=wL w m 1 b o xs
theorem qY (w:World) (m q b o:Nat) (xs ys:List Nat) (h:ys.length=xs.length):aj (aj w m b o xs) q b o ys=aj w (m+q) b o ys:=by
 unfold aj
 rw [← putRow_ahead,putRow_putRow E64 _ b o xs.toArray ys.toArray (by simpa using h),ahead_ahead]
theorem dB (w:World) (q b o:Nat) (xs:List Nat) (a:Addr) (h:a.block≠b∨a.off<o∨o+xs.length≤a.off):(aj w q b o xs).cell? a=w.cell? a:=by
 unfold aj
 rw [cell?_putRow_other E64 _ b o xs.toArray a (by simpa using h),cell?_ahead]
theorem fM (w:World) (q b o:Nat) (xs:List Nat) (a:Addr):(aj w q b o xs).frozen? a=w.frozen? a:=by
 unfold aj
 rw [frozen?_putRow,frozen?_ahead]
@[simp] theorem size_putL (w:World) (q b o:Nat) (xs:List Nat):(aj w q b o xs).heap.size=w.heap.size:=by
 unfold aj
 rw [size_putRow]
 rfl
theorem aF.aj {w:World} {q b o bb bo:Nat} {xs ys:List Nat} (h:aF w bb bo ys) (hne:bb≠b∨bo+ys.length≤o∨o+xs.length≤bo):aF (aj w q b o xs) bb bo ys:=fun j hj=>by
 rw [dB _ _ _ _ _ _ (by simp only;omega)]
 exact h j hj
theorem aB.aj {w:World} {q b o bb bo:Nat} {xs ys:List Nat} (h:aB w bb bo ys) (hne:bb≠b∨bo+ys.length≤o∨o+xs.length≤bo):aB (aj w q b o xs) bb bo ys:=fun j hj=>by
 rw [dB _ _ _ _ _ _ (by simp only;omega),fM]
 exact h j hj
theorem yY (w:World) (q b o:Nat) (xs:List Nat) (k:Nat) (h:k≠b):(aj w q b o xs).heap[k]? = w.heap[k]?:=by
 unfold Go.Proofs.YtancpaiaoamjlaaGreatDoor.aj putRow mapBlock Sort.ahead
 simp only [Array.getElem?_modify]
 rw [if_neg (by omega)]
theorem dV {B:Nat} (w:World) (q b o:Nat) (xs:List Nat) (h:B≤b):Below B w (aj w q b o xs):=
 ⟨rfl,rfl,rfl,by simp,fun k hk=>yY _ _ _ _ _ _ (by omega)⟩
end
section
theorem iV (xs:List Nat) (k:Nat):val (xs.take (k+1))=val (xs.take k)+B64 ^ k*xs[k]?.getD 0:=by
 by_cases hk:k<xs.length
 ·rw [AP xs k hk,List.getElem?_eq_getElem hk];rfl
 ·rw [List.take_of_length_le (by omega),List.take_of_length_le (by omega),List.getElem?_eq_none (by omega)];simp
theorem Oe (xs:List Nat) (k s:Nat) (hk:k<xs.length):(xs.set k s).take (k+1)=xs.take k ++ [s]:=by
 rw [List.take_succ_eq_append_getElem (by simpa using hk),List.take_set_of_le (Nat.le_refl _),List.getElem_set_self]
theorem uU (xs:List Nat) (k s:Nat) (hk:k<xs.length):val ((xs.set k s).take (k+1))=val (xs.take k)+B64 ^ k*s:=by
 rw [Oe xs k s hk,iK,List.length_take,Nat.min_eq_left (by omega)]
theorem yH (xs:List Nat) (k s:Nat):(xs.set k s).drop (k+1)=xs.drop (k+1):=by
 rw [List.drop_set_of_lt (by omega)]
theorem Dig.set {xs:List Nat} (h:Dig xs) (k:Nat) {s:Nat} (hs:s<B64):Dig (xs.set k s):=fun d hd=>by
 rcases List.mem_or_eq_of_mem_set hd with h1 | h1
 ·exact h d h1
 ·omega
structure Part (ay dk:List Nat) (k:Nat):Prop where
 len:dk.length=ay.length
 dig:Dig dk
 rest:dk.drop k=ay.drop k
theorem Part.start {ay:List Nat} (h:Dig ay):Part ay ay 0:=⟨rfl,h,rfl⟩
theorem Part.get {ay dk:List Nat} {k:Nat} (h:Part ay dk k) (j:Nat) (hj:k≤j):dk[j]?.getD 0=ay[j]?.getD 0:=by
 have:=congrArg (fun l=>l[j - k]?.getD 0) h.rest
 simp only [List.getElem?_drop] at this
 rwa [show k+(j - k)=j by omega] at this
theorem Part.step {ay dk:List Nat} {k:Nat} (h:Part ay dk k) {s:Nat} (hs:s<B64):Part ay (dk.set k s) (k+1):=by
 refine ⟨by rw [List.length_set,h.len],h.dig.set k hs,?_⟩
 rw [yH]
 have:=congrArg (List.drop 1) h.rest
 simpa only [List.drop_drop,Nat.add_comm] using this
theorem Part.val {ay dk:List Nat} {k:Nat} (h:Part ay dk k) (hk:k≤ay.length):val dk=val (dk.take k)+B64 ^ k*val (ay.drop k):=by
 rw [cO dk k (by rw [h.len];exact hk),h.rest]
def Inc (ay bs dk:List Nat) (k c:Nat):Prop:=Part ay dk k∧c≤1∧val (dk.take k)+c*B64 ^ k=val (ay.take k)+val (bs.take k)
theorem Inc.start {ay:List Nat} (bs:List Nat) (h:Dig ay):Inc ay bs ay 0 0:=⟨Part.start h,by omega,by simp [iU]⟩
theorem Inc.step {ay bs dk:List Nat} {k c s c':Nat} (h:Inc ay bs dk k c) (hk:k<ay.length) (hs:s<B64) (hc:c'≤1) (e:s+B64*c' = dk[k]?.getD 0+bs[k]?.getD 0+c):Inc ay bs (dk.set k s) (k+1) c':=by
 obtain ⟨hp,_,hv⟩:=h
 refine ⟨hp.step hs,hc,?_⟩
 rw [uU dk k s (by rw [hp.len];exact hk),iV ay k,iV bs k,Nat.pow_succ,← hp.get k (Nat.le_refl _)]
 generalize dk[k]?.getD 0=x at *
 generalize bs[k]?.getD 0=y at *
 generalize B64 ^ k=P at *
 have e2:P*(s+B64*c')=P*(x+y+c):=by rw [e]
 grind
theorem Inc.done {ay bs dk:List Nat} {k c:Nat} (h:Inc ay bs dk k c) (hk:k≤ay.length) (hb:bs.length≤k) (hd:k=ay.length∨c=0):val dk+c*B64 ^ ay.length=val ay+val bs:=by
 obtain ⟨hp,_,hv⟩:=h
 rw [hp.val hk,cO ay k hk]
 rw [List.take_of_length_le hb] at hv
 rcases hd with rfl | rfl
 ·rw [List.drop_of_length_le (Nat.le_refl _)];simp only [iU];omega
 ·omega
def Dec (ay bs dk:List Nat) (k c:Nat):Prop:=Part ay dk k∧c≤1∧val (dk.take k)+val (bs.take k)=val (ay.take k)+c*B64 ^ k
theorem Dec.start {ay:List Nat} (bs:List Nat) (h:Dig ay):Dec ay bs ay 0 0:=⟨Part.start h,by omega,by simp [iU]⟩
theorem Dec.step {ay bs dk:List Nat} {k c s c':Nat} (h:Dec ay bs dk k c) (hk:k<ay.length) (hs:s<B64) (hc:c'≤1) (e:s+bs[k]?.getD 0+c=dk[k]?.getD 0+B64*c'):Dec ay bs (dk.set k s) (k+1) c':=by
 obtain ⟨hp,_,hv⟩:=h
 refine ⟨hp.step hs,hc,?_⟩
 rw [uU dk k s (by rw [hp.len];exact hk),iV ay k,iV bs k,Nat.pow_succ,← hp.get k (Nat.le_refl _)]
 generalize dk[k]?.getD 0=x at *
 generalize bs[k]?.getD 0=y at *
 generalize B64 ^ k=P at *
 have e2:P*(s+y+c)=P*(x+B64*c'):=by rw [e]
 grind
theorem Dec.done {ay bs dk:List Nat} {k c:Nat} (h:Dec ay bs dk k c) (hk:k≤ay.length) (hb:bs.length≤k) (hd:k=ay.length∨c=0):val dk+val bs=val ay+c*B64 ^ ay.length:=by
 obtain ⟨hp,_,hv⟩:=h
 rw [hp.val hk,cO ay k hk]
 rw [List.take_of_length_le hb] at hv
 rcases hd with rfl | rfl
 ·rw [List.drop_of_length_le (Nat.le_refl _)];simp only [iU];omega
 ·omega
theorem Xc {ay bs dk:List Nat} {c:Nat} (hd:Dig dk) (hl:dk.length=ay.length) (h:val dk+val bs=val ay+c*B64 ^ ay.length) (hle:val bs≤val ay):c=0:=by
 have h1:=aV hd
 rw [hl] at h1
 rcases Nat.eq_zero_or_pos c with h0 | h0
 ·exact h0
 ·have:1*B64 ^ ay.length≤c*B64 ^ ay.length:=Nat.mul_le_mul_right _ h0
  omega
def jW (ay bs dk:List Nat) (m k c:Nat):Prop:=Part ay dk k∧c<B64∧val (dk.take k)+c*B64 ^ k=val (ay.take k)+m*val (bs.take k)
theorem jW.start {ay:List Nat} (bs:List Nat) (m:Nat) (h:Dig ay):jW ay bs ay m 0 0:=⟨Part.start h,aT,by simp [iU]⟩
theorem jW.step {ay bs dk:List Nat} {m k c s c':Nat} (h:jW ay bs dk m k c) (hk:k<ay.length) (hs:s<B64) (hc:c' < B64) (e:s+B64*c' = dk[k]?.getD 0+bs[k]?.getD 0*m+c):jW ay bs (dk.set k s) m (k+1) c':=by
 obtain ⟨hp,_,hv⟩:=h
 refine ⟨hp.step hs,hc,?_⟩
 rw [uU dk k s (by rw [hp.len];exact hk),iV ay k,iV bs k,Nat.pow_succ,← hp.get k (Nat.le_refl _)]
 generalize dk[k]?.getD 0=x at *
 generalize bs[k]?.getD 0=y at *
 generalize B64 ^ k=P at *
 have e2:P*(s+B64*c')=P*(x+y*m+c):=by rw [e]
 grind
def kR (ay bs dk:List Nat) (m k c:Nat):Prop:=Part ay dk k∧c<B64∧val (dk.take k)+m*val (bs.take k)=val (ay.take k)+c*B64 ^ k
theorem kR.start {ay:List Nat} (bs:List Nat) (m:Nat) (h:Dig ay):kR ay bs ay m 0 0:=⟨Part.start h,aT,by simp [iU]⟩
theorem kR.step {ay bs dk:List Nat} {m k c s c':Nat} (h:kR ay bs dk m k c) (hk:k<ay.length) (hs:s<B64) (hc:c' < B64) (e:s+bs[k]?.getD 0*m+c=dk[k]?.getD 0+B64*c'):kR ay bs (dk.set k s) m (k+1) c':=by
 obtain ⟨hp,_,hv⟩:=h
 refine ⟨hp.step hs,hc,?_⟩
 rw [uU dk k s (by rw [hp.len];exact hk),iV ay k,iV bs k,Nat.pow_succ,← hp.get k (Nat.le_refl _)]
 generalize dk[k]?.getD 0=x at *
 generalize bs[k]?.getD 0=y at *
 generalize B64 ^ k=P at *
 have e2:P*(s+y*m+c)=P*(x+B64*c'):=by rw [e]
 grind
theorem ZN {x y m c lo hi s1 c1 s2 c2:Nat} (hx:x<B64) (hy:y<B64) (hm:m<B64) (hc:c<B64) (e1:lo+B64*hi=y*m) (e2:s1+B64*c1=lo+c) (e3:s2+B64*c2=x+s1) :
  hi+c1+c2<B64∧s2+B64*(hi+c1+c2)=x+y*m+c:=by
 have e:s2+B64*(hi+c1+c2)=x+y*m+c:=by rw [Nat.mul_add,Nat.mul_add];omega
 refine ⟨?_,e⟩
 have b1:y*m≤(B64 - 1)*(B64 - 1):=Nat.mul_le_mul (by omega) (by omega)
 have b2:(B64 - 1)*(B64 - 1)+2*(B64 - 1)+1=B64*B64:=by decide
 have b3:B64*(hi+c1+c2)<B64*B64:=by omega
 exact Nat.lt_of_mul_lt_mul_left b3
theorem ZL {x y m c lo hi s1 c1 s2 c2:Nat} (hy:y<B64) (hm:m<B64) (hc:c<B64) (h2:s2<B64) (e1:lo+B64*hi=y*m) (e2:s1+B64*c1=lo+c) (e3:s2+s1=x+B64*c2) :
  hi+c1+c2<B64∧s2+y*m+c=x+B64*(hi+c1+c2):=by
 have e:s2+y*m+c=x+B64*(hi+c1+c2):=by rw [Nat.mul_add,Nat.mul_add];omega
 refine ⟨?_,e⟩
 have b1:y*m≤(B64 - 1)*(B64 - 1):=Nat.mul_le_mul (by omega) (by omega)
 have b2:(B64 - 1)*(B64 - 1)+2*(B64 - 1)+1=B64*B64:=by decide
 have b3:B64*(hi+c1+c2)<B64*B64:=by omega
 exact Nat.lt_of_mul_lt_mul_left b3
end
section
def aG (a b:Nat):Int:=if a<b then -1 else if a=b then 0 else 1
theorem gX {a b:Nat} (h:a<b):aG a b = -1:=by unfold aG;rw [if_pos h]
theorem jD (a:Nat):aG a a=0:=by unfold aG;rw [if_neg (by omega),if_pos rfl]
theorem iY {a b:Nat} (h:b<a):aG a b=1:=by unfold aG;rw [if_neg (by omega),if_neg (by omega)]
theorem xR {a b:Nat} (h:aG a b=0):a=b:=by
 unfold aG at h
 split at h
 ·omega
 ·split at h <;> omega
theorem Qs (a b:Nat):aG a b = -1∨aG a b=0∨aG a b=1:=by
 unfold aG
 split
 ·simp
 ·split <;> simp
theorem CJ (a b:Nat):-1≤aG a b∧aG a b≤1:=by rcases Qs a b with h | h | h <;> omega
theorem II (P a b x y:Nat) (hx:x<P) (hy:y<P) (h:aG a b≠0):aG (x+P*a) (y+P*b)=aG a b:=by
 rcases Nat.lt_trichotomy a b with h1 | h1 | h1
 ·rw [gX h1]
  have:P*(a+1)≤P*b:=Nat.mul_le_mul_left _ h1
  exact gX (by rw [Nat.mul_add] at this;omega)
 ·subst h1;rw [jD] at h;omega
 ·rw [iY h1]
  have:P*(b+1)≤P*a:=Nat.mul_le_mul_left _ h1
  exact iY (by rw [Nat.mul_add] at this;omega)
theorem IG (c a b:Nat):aG (a+c) (b+c)=aG a b:=by
 rcases Nat.lt_trichotomy a b with h1 | h1 | h1
 ·rw [gX h1,gX (by omega)]
 ·subst h1;rw [jD,jD]
 ·rw [iY h1,iY (by omega)]
theorem fD (xs:List Nat) (k:Nat) (hk:k<xs.length):val (xs.drop k)=xs[k]?.getD 0+B64*val (xs.drop (k+1)):=by
 rw [List.drop_eq_getElem_cons hk,gV,List.getElem?_eq_getElem hk];rfl
def bJ (xs ys:List Nat) (k:Nat) (r:Int):Prop:=
 k≤xs.length∧(xs.length=ys.length∧r=aG (val (xs.drop k)) (val (ys.drop k))∨xs.length≠ys.length∧r=aG xs.length ys.length)
theorem bJ.bd {xs ys:List Nat} {k:Nat} {r:Int} (h:bJ xs ys k r):-1≤r∧r≤1:=by
 rcases h.2 with ⟨_,rfl⟩ | ⟨_,rfl⟩ <;> exact CJ _ _
theorem bJ.start (xs ys:List Nat):bJ xs ys xs.length (aG xs.length ys.length):=by
 refine ⟨Nat.le_refl _,?_⟩
 by_cases h:xs.length=ys.length
 ·exact .inl ⟨h,by rw [List.drop_of_length_le (Nat.le_refl _),List.drop_of_length_le (by omega),h,jD,jD]⟩
 ·exact .inr ⟨h,rfl⟩
theorem bJ.len {xs ys:List Nat} {k:Nat} (h:bJ xs ys k 0):xs.length=ys.length:=by
 rcases h.2 with ⟨e,_⟩ | ⟨e,h0⟩
 ·exact e
 ·exact xR h0.symm
theorem bJ.step {xs ys:List Nat} {k:Nat} (h:bJ xs ys (k+1) 0):bJ xs ys k (aG (xs[k]?.getD 0) (ys[k]?.getD 0)):=by
 have hl:=h.len
 have hk:=h.1
 refine ⟨by omega,.inl ⟨hl,?_⟩⟩
 rcases h.2 with ⟨_,h0⟩ | ⟨e,_⟩
 ·have e:=xR h0.symm
  rw [fD xs k (by omega),fD ys k (by omega),e,IG]
 ·omega
theorem bJ.done {xs ys:List Nat} {k:Nat} {r:Int} (h:bJ xs ys k r) (hd:k=0∨r≠0) (dx:Dig xs) (dy:Dig ys) (tx:aC xs) (ty:aC ys):r=aG (val xs) (val ys):=by
 obtain ⟨hk,⟨hl,rfl⟩ | ⟨hl,rfl⟩⟩:=h
 ·rcases hd with rfl | hd
  ·simp
  ·rw [cO xs k hk,cO ys k (by omega)]
   have a:=aV (dx.take k)
   have b:=aV (dy.take k)
   rw [List.length_take,Nat.min_eq_left hk] at a
   rw [List.length_take,Nat.min_eq_left (by omega)] at b
   rw [II _ _ _ _ _ a b hd]
 ·rcases Nat.lt_or_gt_of_ne hl with h1 | h1
  ·rw [gX h1,gX (jJ dx ty h1)]
  ·rw [iY h1,iY (jJ dy tx h1)]
def dN (xs:List Nat) (n:Nat):Prop:=n≤xs.length∧(∀ j:Nat,n≤j→xs[j]?.getD 0=0)∧(n=0∨xs[n - 1]?.getD 0≠0)
theorem wX (xs:List Nat) (h:∀ j:Nat,xs[j]?.getD 0=0):val xs=0:=by
 induction xs with
 | nil=>rfl
 | cons x xs ih =>
  have h0:x=0:=by simpa using h 0
  have ht:val xs=0:=ih (fun j=>by simpa using h (j+1))
  rw [gV,h0,ht];simp
theorem dN.val {xs:List Nat} {n:Nat} (h:dN xs n):val (xs.take n)=val xs:=by
 rw [cO xs n h.1,wX (xs.drop n) (fun j=>by rw [List.getElem?_drop];exact h.2.1 _ (by omega))]
 simp
theorem dN.trimmed {xs:List Nat} {n:Nat} (h:dN xs n):aC (xs.take n):=by
 intro hne
 rcases h.2.2 with h0 | h0
 ·subst h0;simp at hne
 ·have hn:n≠0:=by intro e;subst e;simp at hne
  have hle:=h.1
  rw [List.getLast_eq_getElem]
  simp only [List.length_take,Nat.min_eq_left h.1,List.getElem_take]
  rw [List.getElem?_eq_getElem (by omega)] at h0
  exact h0
theorem dN.eq {xs:List Nat} {n m:Nat} (h:dN xs n) (k:dN xs m):n=m:=by
 rcases Nat.lt_trichotomy n m with h1 | h1 | h1
 ·rcases k.2.2 with h0 | h0
  ·omega
  ·exact absurd (h.2.1 (m - 1) (by omega)) h0
 ·exact h1
 ·rcases h.2.2 with h0 | h0
  ·omega
  ·exact absurd (k.2.1 (n - 1) (by omega)) h0
end
section
open Go.RowKit Go.Sort
theorem EJ (x:Int) (w:World):Calls Tryz.prog 118 #[.int .u64 x] w fun e w'=>e=.returned (.bool false)∧w=w':=by
 go_enter Tryz.func118,Tryz.ntmps118
 go_wp2
 go_ret
 simp
theorem EK (x:Int) (w:World):Calls Tryz.prog 89 #[.int .i64 x] w fun e w'=>e=.returned (.bool false)∧w=w':=by
 go_enter Tryz.func89,Tryz.ntmps89
 go_wp2
 go_ret
 simp
theorem G8 (x y:Nat) (w:World):Calls Tryz.prog 91 #[.int .u64 (x:Int),.int .u64 (y:Int)] w fun e w'=>e=.returned (.int .i64 (aG x y))∧w=w':=by
 rcases Nat.lt_trichotomy x y with h | h | h
 ·rw [gX h]
  go_enter Tryz.func91,Tryz.ntmps91
  go_wp2_with (go_at_call 118;refine (EJ _ _).mono ?_;rintro e w' ⟨rfl,rfl⟩)
  go_ret
  simp
 ·subst h
  rw [jD]
  go_enter Tryz.func91,Tryz.ntmps91
  go_wp2_with (go_at_call 118;refine (EJ _ _).mono ?_;rintro e w' ⟨rfl,rfl⟩)
  go_ret
  simp
 ·rw [iY h]
  go_enter Tryz.func91,Tryz.ntmps91
  go_wp2_with (go_at_call 118;refine (EJ _ _).mono ?_;rintro e w' ⟨rfl,rfl⟩)
  go_ret
  simp
def fH (a b:Int):Int:=if a<b then -1 else if a=b then 0 else 1
theorem CO (a b:Nat):fH a b=aG a b:=by unfold fH aG;simp only [Int.ofNat_lt,Int.ofNat_inj]
theorem G9 (x y:Int) (w:World):Calls Tryz.prog 53 #[.int .i64 x,.int .i64 y] w fun e w'=>e=.returned (.int .i64 (fH x y))∧w=w':=by
 rcases Int.lt_trichotomy x y with h | h | h
 ·rw [show fH x y = -1 from by unfold fH;rw [if_pos h]]
  go_enter Tryz.func53,Tryz.ntmps53
  go_wp2_with (go_at_call 89;refine (EK _ _).mono ?_;rintro e w' ⟨rfl,rfl⟩)
  go_ret
  simp
 ·subst h
  rw [show fH x x=0 from by unfold fH;rw [if_neg (by omega),if_pos rfl]]
  go_enter Tryz.func53,Tryz.ntmps53
  go_wp2_with (go_at_call 89;refine (EK _ _).mono ?_;rintro e w' ⟨rfl,rfl⟩)
  go_ret
  simp
 ·rw [show fH x y=1 from by unfold fH;rw [if_neg (by omega),if_neg (by omega)]]
  go_enter Tryz.func53,Tryz.ntmps53
  go_wp2_with (go_at_call 89;refine (EK _ _).mono ?_;rintro e w' ⟨rfl,rfl⟩)
  go_ret
  simp
def Hy (w:World) (xs:List Nat) (e:Ending) (w':World):Prop:=∃ n:Nat,e=.returned (.int .i64 (n:Int))∧dN xs n∧w=w'
theorem KE (b o cp:Nat) (xs:List Nat) (w:World) (hx:aF w b o xs) (hsz:xs.length≤1099511627776) :
  Calls Tryz.prog 135 #[.slice (some ⟨b,o,none⟩) xs.length cp] w (Hy w xs):=by
 go_enter Tryz.func135,Tryz.ntmps135
 go_wp2
 go_loop [3] (fun nv=>∃ n:Nat,nv=.int .i64 n∧n≤xs.length∧∀ j:Nat,n≤j→xs[j]?.getD 0=0) (fun nv=>(intOf nv).toNat)
 case atStart=>exact ⟨xs.length,rfl,Nat.le_refl _,fun j hj=>by rw [List.getElem?_eq_none hj];rfl⟩
 case round =>
  obtain ⟨n,rfl,hn,hz⟩:=hrel
  have HZ:=hid hz
  clear hz
  by_cases h0:n=0
  ·subst h0
   go_wp2
   go_ret
   exact ⟨0,rfl,⟨by omega,HZ.out,.inl rfl⟩,rfl⟩
  ·obtain ⟨m,rfl⟩:∃ m,n=m+1:=⟨n - 1,by omega⟩
   obtain ⟨x,hxm⟩:∃ x,xs[m]?.getD 0=x:=⟨_,rfl⟩
   have cx:w.cell? ⟨b,o+m,none⟩=some (.int .u64 (x:Int)):=by rw [hx m (by omega),hxm]
   have HX:=hid hxm
   clear hxm hx h0
   by_cases hx0:x=0
   ·subst hx0
    go_wp2
    go_round
    case rel =>
     refine ⟨m,by go_num,by omega,fun j hj=>?_⟩
     rcases Nat.lt_or_ge j (m+1) with h1 | h1
     ·rw [show j=m by omega];exact HX.out
     ·exact HZ.out j h1
    case measure=>simp [intOf]
   ·have ht:((x:Int) == 0)=false:=by rw [beq_eq_false_iff_ne];omega
    go_wp2
    go_ret
    exact ⟨m+1,rfl,⟨hn,HZ.out,.inr (by rw [Nat.add_sub_cancel,HX.out];exact hx0)⟩,rfl⟩
def Hz (w:World) (b o:Nat) (xs:List Nat) (e:Ending) (w':World):Prop:=∃ n:Nat,e=.returned (.slice (some ⟨b,o,none⟩) n n)∧dN xs n∧w=w'
theorem AB (b o cp:Nat) (xs:List Nat) (w:World) (hx:aF w b o xs) (hsz:xs.length≤1099511627776) (hcp:xs.length≤cp) :
  Calls Tryz.prog 114 #[.slice (some ⟨b,o,none⟩) xs.length cp] w (Hz w b o xs):=by
 go_enter Tryz.func114,Tryz.ntmps114
 go_wp2_with fail
 refine (KE b o cp xs w hx hsz).mono ?_
 rintro e w' ⟨n,rfl,ht,rfl⟩
 have hn:=ht.1
 have HT:=hid ht
 clear ht hx
 go_wp2
 go_ret
 exact ⟨n,by simp,HT.out,rfl⟩
theorem P6 (b o cp i:Nat) (xs:List Nat) (w:World) (hx:aF w b o xs) :
  Calls Tryz.prog 157 #[.slice (some ⟨b,o,none⟩) xs.length cp,.int .i64 (i:Int)] w fun e w'=>e=.returned (.int .u64 ((xs[i]?.getD 0:Nat):Int))∧w=w':=by
 obtain ⟨x,hxi⟩:∃ x,xs[i]?.getD 0=x:=⟨_,rfl⟩
 rw [hxi]
 by_cases h:i<xs.length
 ·have cx:w.cell? ⟨b,o+i,none⟩=some (.int .u64 (x:Int)):=by rw [hx i h,hxi]
  clear hxi hx
  go_enter Tryz.func157,Tryz.ntmps157
  go_wp2
  go_ret
  simp
 ·obtain rfl:x=0:=by rw [← hxi,List.getElem?_eq_none (by omega)];rfl
  clear hxi hx
  go_enter Tryz.func157,Tryz.ntmps157
  go_wp2
  go_ret
  simp
theorem IL (b o cp b2 o2 cp2:Nat) (xs ys:List Nat) (w:World) (hx:aF w b o xs) (hy:aF w b2 o2 ys) (dx:Dig xs) (dy:Dig ys) (tx:aC xs) (ty:aC ys) (hsx:xs.length≤1099511627776) :
  Calls Tryz.prog 90 #[.slice (some ⟨b,o,none⟩) xs.length cp,.slice (some ⟨b2,o2,none⟩) ys.length cp2] w fun e w'=>e=.returned (.int .i64 (aG (val xs) (val ys)))∧∃ q,w' = w.drewN q:=by
 go_enter Tryz.func90,Tryz.ntmps90
 go_wp2_with (go_at_call 53;refine (G9 _ _ _).mono ?_;rintro e w' ⟨rfl,rfl⟩)
 rw [CO]
 have hb:=CJ xs.length ys.length
 go_loopw [5,6] (fun rv iv wr=>∃ (k q:Nat) (r:Int),iv=.int .i64 ((k:Int) - 1)∧rv=.int .i64 r∧wr=w.drewN q∧bJ xs ys k r) (fun _ iv _=>(intOf iv+1).toNat)
 case atStart=>exact ⟨xs.length,0,_,rfl,rfl,rfl,bJ.start xs ys⟩
 case round =>
  clear hb
  obtain ⟨k,q,r,rfl,rfl,hwr,hC⟩:=hrel
  have hk:=hC.1
  have hr:=hC.bd
  by_cases hgo:k≠0∧r=0
  ·obtain ⟨h0,rfl⟩:=hgo
   obtain ⟨m,rfl⟩:∃ m,k=m+1:=⟨k - 1,by omega⟩
   have hl:=hC.len
   obtain ⟨x,hxm⟩:∃ x,xs[m]?.getD 0=x:=⟨_,rfl⟩
   obtain ⟨y,hym⟩:∃ y,ys[m]?.getD 0=y:=⟨_,rfl⟩
   have cx:wr.cell? ⟨b,o+m,none⟩=some (.int .u64 (x:Int)):=by rw [hwr];exact (hx m (by omega)).trans (by rw [hxm])
   have cy:wr.cell? ⟨b2,o2+m,none⟩=some (.int .u64 (y:Int)):=by rw [hwr];exact (hy m (by omega)).trans (by rw [hym])
   have hml:m<ys.length:=by omega
   have HC:Hid (bJ xs ys m (aG x y)):=by rw [← hxm,← hym];exact hC.step
   have HW:=hid hwr
   clear hC hwr hxm hym hx hy hr h0 hl
   go_wp2
   go_quiet ((go_at_call 91;exact Calls.quiet_of_same ((G8 _ _ _).mono fun _ _ ⟨h1,h2⟩=>⟨h1,h2.symm⟩)))
   go_wp2
   go_roundw
   case rel=>exact ⟨m,_,_,by go_num,rfl,by rw [HW.out,World.drewN_drewN],HC.out⟩
   case measure=>simp [intOf]
  ·have hd:k=0∨r≠0:=by omega
   have HD:=hid (hC.done hd dx dy tx ty)
   have HW:=hid hwr
   clear hC hwr hx hy
   by_cases h0:k=0
   ·subst h0
    go_wp2
    go_ret
    exact ⟨congrArg (fun t=>Ending.returned (.int .i64 t)) HD.out,q,HW.out⟩
   ·have ht:(r == 0)=false:=by rw [beq_eq_false_iff_ne];omega
    go_wp2
    go_ret
    exact ⟨congrArg (fun t=>Ending.returned (.int .i64 t)) HD.out,q,HW.out⟩
theorem Vw (nx:Nat) (b o cp:Nat) (xs:List Nat) (w:World) (hx:aF w b o xs) (hsz:xs.length≤1099511627776) (hnx:xs.length=nx) :
  Calls Tryz.prog 135 #[.slice (some ⟨b,o,none⟩) nx cp] w (Hy w xs):=by
 subst hnx
 exact KE b o cp xs w hx hsz
theorem jT (nx:Nat) (b o cp:Nat) (xs:List Nat) (w:World) (hx:aF w b o xs) (hsz:xs.length≤1099511627776) (hcp:xs.length≤cp) (hnx:xs.length=nx) :
  Calls Tryz.prog 114 #[.slice (some ⟨b,o,none⟩) nx cp] w (Hz w b o xs):=by
 subst hnx
 exact AB b o cp xs w hx hsz hcp
theorem vK (nx:Nat) (b o cp i:Nat) (xs:List Nat) (w:World) (hx:aF w b o xs) (hnx:xs.length=nx) :
  Calls Tryz.prog 157 #[.slice (some ⟨b,o,none⟩) nx cp,.int .i64 (i:Int)] w fun e w'=>e=.returned (.int .u64 ((xs[i]?.getD 0:Nat):Int))∧w=w':=by
 subst hnx
 exact P6 b o cp i xs w hx
theorem xU (nx ny:Nat) (b o cp b2 o2 cp2:Nat) (xs ys:List Nat) (w:World) (hx:aF w b o xs) (hy:aF w b2 o2 ys) (dx:Dig xs) (dy:Dig ys) (tx:aC xs) (ty:aC ys) (hsx:xs.length≤1099511627776) (hnx:xs.length=nx) (hny:ys.length=ny) :
  Calls Tryz.prog 90 #[.slice (some ⟨b,o,none⟩) nx cp,.slice (some ⟨b2,o2,none⟩) ny cp2] w fun e w'=>e=.returned (.int .i64 (aG (val xs) (val ys)))∧∃ q,w' = w.drewN q:=by
 subst hnx hny
 exact IL b o cp b2 o2 cp2 xs ys w hx hy dx dy tx ty hsx
end
section
open Go.RowKit Go.Sort
def pX (w:World) (b o n:Nat) (Q:List Nat→Nat→Prop) (e:Ending) (w':World):Prop:=
 ∃ (ds:List Nat) (c q:Nat),e=.returned (.int .u64 (c:Int))∧w' = aj w q b o ds∧ds.length=n∧Dig ds∧Q ds c
def xA (w:World) (b o n:Nat) (Q:List Nat→Prop) (e:Ending) (w':World):Prop:=
 ∃ (ds:List Nat) (q:Nat),e=.returned (.tuple #[])∧w' = aj w q b o ds∧ds.length=n∧Dig ds∧Q ds
theorem UK (b o cp b2 o2 cp2:Nat) (xs bs:List Nat) (w:World) (hH:aB w b o xs) (hY:aF w b2 o2 bs) (hne:b2≠b∨o2+bs.length≤o∨o+xs.length≤o2)
  (hl:bs.length≤xs.length) (ha:Dig xs) (hb:Dig bs) (hsz:xs.length≤1099511627776) :
  Calls Tryz.prog 129 #[.slice (some ⟨b,o,none⟩) xs.length cp,.slice (some ⟨b2,o2,none⟩) bs.length cp2] w
   (pX w b o xs.length fun ds c=>val ds+c*B64 ^ xs.length=val xs+val bs):=by
 have h1:=BG
 have h2:=Pv
 go_enter Tryz.func129,Tryz.ntmps129
 go_wp2
 go_loopw [5,10] (fun cv iv wr=>∃ (k c n:Nat) (dk:List Nat),iv=.int .i64 k∧cv=.int .u64 c∧k≤bs.length∧wr=aj w n b o dk∧Inc xs bs dk k c) (fun _ iv _=>bs.length - (intOf iv).toNat)
 case atStart=>exact ⟨0,0,0,xs,rfl,rfl,by omega,(jH w b o xs hH).symm,Inc.start bs ha⟩
 case round =>
  obtain ⟨k,c,n,dk,rfl,rfl,hk,hwr,hI⟩:=hrel
  have hdl:dk.length=xs.length:=hI.1.len
  by_cases hlt:k<bs.length
  ·obtain ⟨x,hx⟩:∃ x,dk[k]?.getD 0=x:=⟨_,rfl⟩
   obtain ⟨y,hy⟩:∃ y,bs[k]?.getD 0=y:=⟨_,rfl⟩
   have hx1:x<B64:=hx ▸ hI.1.dig.getD k
   have hy1:y<B64:=hy ▸ hb.getD k
   have hc1:c≤1:=hI.2.1
   have cx:wr.cell? ⟨b,o+k,none⟩=some (.int .u64 (x:Int)):=by
    have:=(bH w n b o xs dk hH hdl k (by omega)).1
    rw [hwr,this,hx]
   have cy:wr.cell? ⟨b2,o2+k,none⟩=some (.int .u64 (y:Int)):=by
    have:=(hY.aj (q:=n) (b:=b) (o:=o) (xs:=dk) (by omega)) k hlt
    rw [hwr,this,hy]
   have fx:wr.frozen? ⟨b,o+k,none⟩=false:=by
    have:=(hH k (by omega)).2
    rw [hwr,fM,this]
   have HI:=hid (hI.step (s:=bF x y c) (c':=dX x y c) (by omega) (nP _ _ _) (xG _ _ _ hx1 hy1 hc1) (by rw [hx,hy];exact lV x y c))
   have HW:=hid hwr
   have HL:Hid (dk.length=xs.length):=hdl
   clear hwr hI hdl hx hy hH hY
   go_wp2
   go_region
   all_goals go_wp2
   go_roundw
   case rel =>
    refine ⟨k+1,dX x y c,n+1,dk.set k (bF x y c),by go_num,rfl,by omega,?_,HI.out⟩
    rw [HW.out,iQ _ _ _ _ _ _ _ (by rw [HL.out];omega),uI]
   case measure=>simp [intOf];omega
  ·have hkl:k=bs.length:=by omega
   have HK:=hid hkl
   clear hkl
   go_wp2
   go_loopw [5,7] (fun cv iv wr=>∃ (k c n:Nat) (dk:List Nat),iv=.int .i64 k∧cv=.int .u64 c∧bs.length≤k∧k≤xs.length∧wr=aj w n b o dk∧Inc xs bs dk k c) (fun _ iv _=>xs.length - (intOf iv).toNat)
   case atStart=>exact ⟨bs.length,c,n,dk,rfl,rfl,by omega,hl,rfl,by rw [← HK.out];exact hI⟩
   case round =>
    clear HK hlt hk hI hdl
    obtain ⟨k,c,n,dk,rfl,rfl,hk1,hk2,hwr,hI⟩:=hrel
    have hdl:dk.length=xs.length:=hI.1.len
    have hc1:c≤1:=hI.2.1
    by_cases hgo:k<xs.length∧c≠0
    ·obtain ⟨hlt,hc0⟩:=hgo
     have ht:((c:Int) != 0)=true:=by rw [bne_iff_ne];omega
     obtain ⟨x,hx⟩:∃ x,dk[k]?.getD 0=x:=⟨_,rfl⟩
     have hx1:x<B64:=hx ▸ hI.1.dig.getD k
     have cx:wr.cell? ⟨b,o+k,none⟩=some (.int .u64 (x:Int)):=by
      have:=(bH w n b o xs dk hH hdl k (by omega)).1
      rw [hwr,this,hx]
     have fx:wr.frozen? ⟨b,o+k,none⟩=false:=by
      have:=(hH k (by omega)).2
      rw [hwr,fM,this]
     have HI:=hid (hI.step (s:=bF x 0 c) (c':=dX x 0 c) (by omega) (nP _ _ _) (xG _ _ _ hx1 aT hc1) (by rw [hx,List.getElem?_eq_none hk1];exact lV x 0 c))
     have HW:=hid hwr
     have HL:Hid (dk.length=xs.length):=hdl
     clear hwr hI hdl hx hH hY
     go_wp2
     go_roundw
     case rel =>
      refine ⟨k+1,dX x 0 c,n,dk.set k (bF x 0 c),by go_num,rfl,by omega,by omega,?_,HI.out⟩
      rw [HW.out,iQ _ _ _ _ _ _ _ (by rw [HL.out];omega)]
     case measure=>simp [intOf];omega
    ·have hD:=hid (hI.done hk2 hk1 (by omega))
     have HI:=hid hI
     have HL:Hid (dk.length=xs.length):=hdl
     clear hI hdl
     by_cases hlt:k<xs.length
     ·have ht:((c:Int) != 0)=false:=by rw [bne_eq_false_iff_eq];omega
      go_wp2
      go_ret
      exact ⟨dk,c,n,rfl,rfl,HL.out,HI.out.1.dig,hD.out⟩
     ·go_wp2
      go_ret
      exact ⟨dk,c,n,rfl,rfl,HL.out,HI.out.1.dig,hD.out⟩
theorem RN (b o cp b2 o2 cp2:Nat) (xs bs:List Nat) (w:World) (hH:aB w b o xs) (hY:aF w b2 o2 bs) (hne:b2≠b∨o2+bs.length≤o∨o+xs.length≤o2)
  (hl:bs.length≤xs.length) (ha:Dig xs) (hb:Dig bs) (hv:val bs≤val xs) (hsz:xs.length≤1099511627776) :
  Calls Tryz.prog 130 #[.slice (some ⟨b,o,none⟩) xs.length cp,.slice (some ⟨b2,o2,none⟩) bs.length cp2] w
   (xA w b o xs.length fun ds=>val ds+val bs=val xs):=by
 have h1:=Gx
 have h2:=ZK
 go_enter Tryz.func130,Tryz.ntmps130
 go_wp2
 go_loopw [4,9] (fun cv iv wr=>∃ (k c n:Nat) (dk:List Nat),iv=.int .i64 k∧cv=.int .u64 c∧k≤bs.length∧wr=aj w n b o dk∧Dec xs bs dk k c) (fun _ iv _=>bs.length - (intOf iv).toNat)
 case atStart=>exact ⟨0,0,0,xs,rfl,rfl,by omega,(jH w b o xs hH).symm,Dec.start bs ha⟩
 case round =>
  obtain ⟨k,c,n,dk,rfl,rfl,hk,hwr,hI⟩:=hrel
  have hdl:dk.length=xs.length:=hI.1.len
  by_cases hlt:k<bs.length
  ·obtain ⟨x,hx⟩:∃ x,dk[k]?.getD 0=x:=⟨_,rfl⟩
   obtain ⟨y,hy⟩:∃ y,bs[k]?.getD 0=y:=⟨_,rfl⟩
   have hx1:x<B64:=hx ▸ hI.1.dig.getD k
   have hy1:y<B64:=hy ▸ hb.getD k
   have hc1:c≤1:=hI.2.1
   have cx:wr.cell? ⟨b,o+k,none⟩=some (.int .u64 (x:Int)):=by
    have:=(bH w n b o xs dk hH hdl k (by omega)).1
    rw [hwr,this,hx]
   have cy:wr.cell? ⟨b2,o2+k,none⟩=some (.int .u64 (y:Int)):=by
    have:=(hY.aj (q:=n) (b:=b) (o:=o) (xs:=dk) (by omega)) k hlt
    rw [hwr,this,hy]
   have fx:wr.frozen? ⟨b,o+k,none⟩=false:=by
    have:=(hH k (by omega)).2
    rw [hwr,fM,this]
   have HI:=hid (hI.step (s:=jS x y c) (c':=iT x y c) (by omega) (wV _ _ _) (Gy _ _ _) (by rw [hx,hy];exact Az x y c hx1 hy1 hc1))
   have HW:=hid hwr
   have HL:Hid (dk.length=xs.length):=hdl
   clear hwr hI hdl hx hy hH hY
   go_wp2
   go_region
   all_goals go_wp2
   go_roundw
   case rel =>
    refine ⟨k+1,iT x y c,n+1,dk.set k (jS x y c),by go_num,rfl,by omega,?_,HI.out⟩
    rw [HW.out,iQ _ _ _ _ _ _ _ (by rw [HL.out];omega),uI]
   case measure=>simp [intOf];omega
  ·have hkl:k=bs.length:=by omega
   have HK:=hid hkl
   clear hkl
   go_wp2
   go_loopw [4,6] (fun cv iv wr=>∃ (k c n:Nat) (dk:List Nat),iv=.int .i64 k∧cv=.int .u64 c∧bs.length≤k∧k≤xs.length∧wr=aj w n b o dk∧Dec xs bs dk k c) (fun _ iv _=>xs.length - (intOf iv).toNat)
   case atStart=>exact ⟨bs.length,c,n,dk,rfl,rfl,by omega,hl,rfl,by rw [← HK.out];exact hI⟩
   case round =>
    clear HK hlt hk hI hdl
    obtain ⟨k,c,n,dk,rfl,rfl,hk1,hk2,hwr,hI⟩:=hrel
    have hdl:dk.length=xs.length:=hI.1.len
    have hc1:c≤1:=hI.2.1
    by_cases hgo:k<xs.length∧c≠0
    ·obtain ⟨hlt,hc0⟩:=hgo
     have ht:((c:Int) != 0)=true:=by rw [bne_iff_ne];omega
     obtain ⟨x,hx⟩:∃ x,dk[k]?.getD 0=x:=⟨_,rfl⟩
     have hx1:x<B64:=hx ▸ hI.1.dig.getD k
     have cx:wr.cell? ⟨b,o+k,none⟩=some (.int .u64 (x:Int)):=by
      have:=(bH w n b o xs dk hH hdl k (by omega)).1
      rw [hwr,this,hx]
     have fx:wr.frozen? ⟨b,o+k,none⟩=false:=by
      have:=(hH k (by omega)).2
      rw [hwr,fM,this]
     have HI:=hid (hI.step (s:=jS x 0 c) (c':=iT x 0 c) (by omega) (wV _ _ _) (Gy _ _ _) (by rw [hx,List.getElem?_eq_none hk1];exact Az x 0 c hx1 aT hc1))
     have HW:=hid hwr
     have HL:Hid (dk.length=xs.length):=hdl
     clear hwr hI hdl hx hH hY
     go_wp2
     go_roundw
     case rel =>
      refine ⟨k+1,iT x 0 c,n,dk.set k (jS x 0 c),by go_num,rfl,by omega,by omega,?_,HI.out⟩
      rw [HW.out,iQ _ _ _ _ _ _ _ (by rw [HL.out];omega)]
     case measure=>simp [intOf];omega
    ·have hD:=hid (hI.done hk2 hk1 (by omega))
     have HV:Hid (val dk+val bs=val xs):=by
      have h0:=Xc hI.1.dig hdl hD.out hv
      have h3:=hD.out
      rw [h0] at h3
      show _=_
      omega
     have HI:=hid hI
     have HL:Hid (dk.length=xs.length):=hdl
     clear hI hdl
     by_cases hlt:k<xs.length
     ·have ht:((c:Int) != 0)=false:=by rw [bne_eq_false_iff_eq];omega
      go_wp2
      go_end0
      exact ⟨dk,n,rfl,rfl,HL.out,HI.out.1.dig,HV.out⟩
     ·go_wp2
      go_end0
      exact ⟨dk,n,rfl,rfl,HL.out,HI.out.1.dig,HV.out⟩
theorem EF (nx nb:Nat) (b o cp b2 o2 cp2:Nat) (xs bs:List Nat) (w:World) (hH:aB w b o xs) (hY:aF w b2 o2 bs) (hne:b2≠b∨o2+bs.length≤o∨o+xs.length≤o2)
  (hl:bs.length≤xs.length) (ha:Dig xs) (hb:Dig bs) (hsz:xs.length≤1099511627776) (hnx:xs.length=nx) (hnb:bs.length=nb) :
  Calls Tryz.prog 129 #[.slice (some ⟨b,o,none⟩) nx cp,.slice (some ⟨b2,o2,none⟩) nb cp2] w
   (pX w b o xs.length fun ds c=>val ds+c*B64 ^ xs.length=val xs+val bs):=by
 subst hnx hnb
 exact UK b o cp b2 o2 cp2 xs bs w hH hY hne hl ha hb hsz
theorem RP (nx nb:Nat) (b o cp b2 o2 cp2:Nat) (xs bs:List Nat) (w:World) (hH:aB w b o xs) (hY:aF w b2 o2 bs) (hne:b2≠b∨o2+bs.length≤o∨o+xs.length≤o2)
  (hl:bs.length≤xs.length) (ha:Dig xs) (hb:Dig bs) (hv:val bs≤val xs) (hsz:xs.length≤1099511627776) (hnx:xs.length=nx) (hnb:bs.length=nb) :
  Calls Tryz.prog 130 #[.slice (some ⟨b,o,none⟩) nx cp,.slice (some ⟨b2,o2,none⟩) nb cp2] w
   (xA w b o xs.length fun ds=>val ds+val bs=val xs):=by
 subst hnx hnb
 exact RN b o cp b2 o2 cp2 xs bs w hH hY hne hl ha hb hv hsz
end
end Go.Proofs.YtancpaiaoamjlaaGreatDoor
