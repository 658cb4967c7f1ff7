/- What the proof rests on, part 0. -/
import Derived.WalkKit
import Derived.WalkLawsBesides
import Derived.WalkSpells
import Derived.Outline
import Derived.Deep.QuietTactic
import Derived.BigQuiet
import Derived.BigRegion
import Derived.Deep.RegionWith
import Derived.Deep.RegionHeld3
import Derived.StillTailTactics
import Derived.Deep.LoopGhost
import Derived.Test.YtmijlcldmefggaaGreatDoorProg
import Derived.Laws.Externs
import Derived.Shelf.Spec.BitsCarry
import Derived.Lib.Mul64
import Derived.Shelf.Bits.Mul64
import Derived.Sort.Row
import Derived.Sort.Walk0
import Derived.Deep.Draws
import Derived.CellFam
namespace Go.Proofs.YtmijlcldmefggaaGreatDoor
set_option maxRecDepth 100000
set_option maxHeartbeats 80000000
section
def B64:Nat:=18446744073709551616
theorem B64_pos:0<B64:=by decide
def val:List Nat→Nat
 | []=>0
 | d :: ds=>d+B64*val ds
def Dig (xs:List Nat):Prop:=∀ d,d∈xs→d<B64
theorem val_nil:val []=0:=rfl
theorem val_cons (d:Nat) (ds:List Nat):val (d :: ds)=d+B64*val ds:=rfl
theorem val_append (xs ys:List Nat):val (xs ++ ys)=val xs+B64 ^ xs.length*val ys:=by
 induction xs with
 | nil=>simp [val]
 | cons x xs ih=>simp only [List.cons_append,val_cons,ih,List.length_cons,Nat.pow_succ,Nat.mul_add];rw [Nat.mul_comm (B64 ^ xs.length) B64,Nat.mul_assoc];omega
theorem val_snoc (xs:List Nat) (d:Nat):val (xs ++ [d])=val xs+B64 ^ xs.length*d:=by
 rw [val_append];simp [val]
theorem Dig.nil:Dig []:=fun _ h=>by simp at h
theorem Dig.append {xs ys:List Nat} (h:Dig xs) (k:Dig ys):Dig (xs ++ ys):=fun d hd=>by
 rcases List.mem_append.1 hd with h1 | h1
 ·exact h d h1
 ·exact k d h1
theorem Dig.left {xs ys:List Nat} (h:Dig (xs ++ ys)):Dig xs:=fun d hd=>h d (by simp [hd])
theorem Dig.right {xs ys:List Nat} (h:Dig (xs ++ ys)):Dig ys:=fun d hd=>h d (by simp [hd])
theorem Dig.take {xs:List Nat} (h:Dig xs) (k:Nat):Dig (xs.take k):=fun d hd=>h d (List.mem_of_mem_take hd)
theorem Dig.drop {xs:List Nat} (h:Dig xs) (k:Nat):Dig (xs.drop k):=fun d hd=>h d (List.mem_of_mem_drop hd)
theorem Dig.get {xs:List Nat} (h:Dig xs) (k:Nat) (hk:k<xs.length):xs[k]<B64:=h _ (List.getElem_mem hk)
theorem Dig.getD {xs:List Nat} (h:Dig xs) (k:Nat):xs[k]?.getD 0<B64:=by
 by_cases hk:k<xs.length
 ·rw [List.getElem?_eq_getElem hk];exact h.get k hk
 ·rw [List.getElem?_eq_none (by omega)];exact B64_pos
theorem val_lt {xs:List Nat} (h:Dig xs):val xs<B64 ^ xs.length:=by
 induction xs with
 | nil=>simp [val]
 | cons x xs ih =>
  have hx:=h x (by simp)
  have ht:=ih (fun d hd=>h d (by simp [hd]))
  rw [val_cons,List.length_cons,Nat.pow_succ,Nat.mul_comm _ B64]
  calc x+B64*val xs<B64+B64*val xs:=by omega
   _=B64*(val xs+1):=by rw [Nat.mul_add];omega
   _≤B64*B64 ^ xs.length:=Nat.mul_le_mul_left _ ht
theorem val_take_succ (xs:List Nat) (k:Nat) (hk:k<xs.length):val (xs.take (k+1))=val (xs.take k)+B64 ^ k*xs[k]:=by
 rw [List.take_succ_eq_append_getElem hk,val_snoc,List.length_take,Nat.min_eq_left (by omega)]
theorem val_split (xs:List Nat) (k:Nat) (hk:k≤xs.length):val xs=val (xs.take k)+B64 ^ k*val (xs.drop k):=by
 conv=>lhs;rw [← List.take_append_drop k xs]
 rw [val_append,List.length_take,Nat.min_eq_left hk]
theorem val_zeros (n:Nat):val (List.replicate n 0)=0:=by
 induction n with
 | zero=>rfl
 | succ n ih=>rw [List.replicate_succ,val_cons,ih];rfl
def Trimmed (xs:List Nat):Prop:=∀ h:xs≠[],xs.getLast h≠0
theorem val_ge_of_trimmed {xs:List Nat} (h:Trimmed xs) (hne:xs≠[]):B64 ^ (xs.length - 1)≤val xs:=by
 have hl:=h hne
 obtain ⟨ys,d,rfl⟩:∃ ys d,xs=ys ++ [d]:=⟨xs.dropLast,xs.getLast hne,(List.dropLast_concat_getLast hne).symm⟩
 rw [val_snoc]
 simp at hl ⊢
 calc B64 ^ ys.length=B64 ^ ys.length*1:=by omega
  _≤B64 ^ ys.length*d:=Nat.mul_le_mul_left _ (by omega)
  _≤_:=by omega
theorem val_pos_of_trimmed {xs:List Nat} (h:Trimmed xs) (hne:xs≠[]):0<val xs:=
 Nat.lt_of_lt_of_le (Nat.pow_pos B64_pos) (val_ge_of_trimmed h hne)
theorem val_lt_of_length {xs ys:List Nat} (hx:Dig xs) (hy:Trimmed ys) (hl:xs.length<ys.length):val xs<val ys:=by
 have h1:=val_lt hx
 have h2:=val_ge_of_trimmed hy (by intro e;simp [e] at hl)
 have h3:B64 ^ xs.length≤B64 ^ (ys.length - 1):=Nat.pow_le_pow_right B64_pos (by omega)
 omega
end
section
open Go.RowKit
theorem hid {p:Prop} (h:p):Hid p:=h
def Digs (w:World) (b o:Nat) (xs:List Nat):Prop:=∀ j,j<xs.length→w.cell? ⟨b,o+j,none⟩=some (.int .u64 ((xs[j]?.getD 0:Nat):Int))
theorem Digs.below {B:Nat} {w w':World} {b o:Nat} {xs:List Nat} (h:Digs w b o xs) (hb:Below B w w') (hB:b<B):Digs w' b o xs:=
 fun j hj=>(hb.cell (p:=⟨b,o+j,none⟩) hB).trans (h j hj)
def IsMag (w:World) (c d:Value) (n:Nat):Prop:=
 (n<B64∧c=.int .u64 (n:Int)∧d=.slice none 0 0) ∨
  ∃ (b o k:Nat) (xs:List Nat),c=.int .u64 0∧d=.slice (some ⟨b,o,none⟩) xs.length k∧b<w.heap.size∧2≤xs.length∧xs.length≤k∧Dig xs∧Trimmed xs∧val xs=n∧Digs w b o xs
theorem IsMag.below {w w':World} {c d:Value} {n:Nat} (h:IsMag w c d n) (hb:Below w.heap.size w w'):IsMag w' c d n:=by
 rcases h with h | ⟨b,o,k,xs,h1,h2,h3,h4,h5,h6,h7,h8,h9⟩
 ·exact .inl h
 ·exact .inr ⟨b,o,k,xs,h1,h2,by have:=hb.size;omega,h4,h5,h6,h7,h8,h9.below hb h3⟩
theorem IsMag.mono {B:Nat} {w w':World} {c d:Value} {n:Nat} (h:IsMag w c d n) (hb:Below B w w') (hB:w.heap.size≤B):IsMag w' c d n:=h.below (hb.mono hB)
def denOf (r:Rat):Nat:=if r.den=1 then 0 else r.den
def IsQ (w:World) (v:Value) (r:Rat):Prop:=
 ∃ c d e f,v=.agg #[.bool (decide (r.num<0)),c,d,e,f]∧IsMag w c d r.num.natAbs∧IsMag w e f (denOf r)
theorem IsQ.below {w w':World} {v:Value} {r:Rat} (h:IsQ w v r) (hb:Below w.heap.size w w'):IsQ w' v r:=by
 obtain ⟨c,d,e,f,rfl,h1,h2⟩:=h
 exact ⟨c,d,e,f,rfl,h1.below hb,h2.below hb⟩
def RetQ (w:World) (r:Rat) (e:Ending) (w':World):Prop:=∃ v,e=.returned v∧IsQ w' v r∧Below w.heap.size w w'
def Fits (k:Nat) (r:Rat):Prop:=r.num.natAbs<B64 ^ k∧r.den<B64 ^ k
theorem cB {B:Nat} {W W':World} {b o:Nat} {v:Value} (h:Below B W W') (hc:W.cell? ⟨b,o,none⟩=some v) (hb:b<B):W'.cell? ⟨b,o,none⟩=some v:=(h.cell (p:=⟨b,o,none⟩) hb).trans hc
end
section
open Go.RowKit
abbrev C5 (w:World) (b:Nat) (v0 v1 v2 v3 v4:Value):Prop:=
 w.cell? ⟨b,0,none⟩=some v0∧w.cell? ⟨b,1,none⟩=some v1∧w.cell? ⟨b,2,none⟩=some v2∧w.cell? ⟨b,3,none⟩=some v3∧w.cell? ⟨b,4,none⟩=some v4
theorem C5.below {w w':World} {b B:Nat} {v0 v1 v2 v3 v4:Value} (h:C5 w b v0 v1 v2 v3 v4) (hb:Below B w w') (hB:b<B):C5 w' b v0 v1 v2 v3 v4:=
 ⟨(hb.cell (p:=⟨b,0,none⟩) hB).trans h.1,(hb.cell (p:=⟨b,1,none⟩) hB).trans h.2.1,(hb.cell (p:=⟨b,2,none⟩) hB).trans h.2.2.1,(hb.cell (p:=⟨b,3,none⟩) hB).trans h.2.2.2.1,(hb.cell (p:=⟨b,4,none⟩) hB).trans h.2.2.2.2⟩
end
section
open Go.RowKit
def addS (x y c:Nat):Nat:=(x+y+c) % B64
def addC (x y c:Nat):Nat:=(x+y+c) / B64
def subS (x y b:Nat):Nat:=(x+B64 - y - b) % B64
def subC (x y b:Nat):Nat:=if x<y+b then 1 else 0
def mulH (x y:Nat):Nat:=x*y / B64
def mulL (x y:Nat):Nat:=x*y % B64
theorem add_spec (x y c:Nat):addS x y c+B64*addC x y c=x+y+c:=Nat.mod_add_div _ _
theorem addS_lt (x y c:Nat):addS x y c<B64:=Nat.mod_lt _ B64_pos
theorem addC_le (x y c:Nat) (hx:x<B64) (hy:y<B64) (hc:c≤1):addC x y c≤1:=by
 unfold addC
 rw [← Nat.lt_succ_iff,Nat.div_lt_iff_lt_mul B64_pos]
 unfold B64 at *
 omega
theorem sub_spec (x y b:Nat) (hx:x<B64) (hy:y<B64) (hb:b≤1):subS x y b+y+b=x+B64*subC x y b:=by
 unfold subS subC
 unfold B64 at *
 split <;> omega
theorem subS_lt (x y b:Nat):subS x y b<B64:=Nat.mod_lt _ B64_pos
theorem subC_le (x y b:Nat):subC x y b≤1:=by unfold subC;split <;> omega
theorem mul_spec (x y:Nat):mulL x y+B64*mulH x y=x*y:=Nat.mod_add_div _ _
theorem mulL_lt (x y:Nat):mulL x y<B64:=Nat.mod_lt _ B64_pos
theorem mulH_le (x y:Nat) (hx:x<B64) (hy:y<B64):mulH x y+2≤B64:=by
 have h1:x*y≤(B64 - 1)*(B64 - 1):=Nat.mul_le_mul (by omega) (by omega)
 have h2:mulH x y≤(B64 - 1)*(B64 - 1) / B64:=Nat.div_le_div_right h1
 have h3:(B64 - 1)*(B64 - 1) / B64+2≤B64:=by decide
 omega
theorem add64_run (x y c:Nat) (hc:c≤1) (w:World) :
  (callFunc 153 #[.int .u64 (x:Int),.int .u64 (y:Int),.int .u64 (c:Int)]).run Tryz.prog w=.ok (.value (.tuple #[.int .u64 ((addS x y c:Nat):Int),.int .u64 ((addC x y c:Nat):Int)])) w:=by
 rw [run_callFunc_extern (fn:=Tryz.f153) Tryz.func153 (by kernel_rfl) (by kernel_rfl) (by kernel_rfl) (e:=add64Entry) (by kernel_rfl),run_add64 x y c (by omega) (by omega) (by omega) (by omega)]
 simp only [Result.andThen]
 unfold addS addC B64
 congr 5 <;> omega
theorem add64_run0 (x y:Nat) (w:World) :
  (callFunc 153 #[.int .u64 (x:Int),.int .u64 (y:Int),.int .u64 0]).run Tryz.prog w=.ok (.value (.tuple #[.int .u64 ((addS x y 0:Nat):Int),.int .u64 ((addC x y 0:Nat):Int)])) w:=
 add64_run x y 0 (by omega) w
theorem add64_runz (x c:Nat) (hc:c≤1) (w:World) :
  (callFunc 153 #[.int .u64 (x:Int),.int .u64 0,.int .u64 (c:Int)]).run Tryz.prog w=.ok (.value (.tuple #[.int .u64 ((addS x 0 c:Nat):Int),.int .u64 ((addC x 0 c:Nat):Int)])) w:=
 add64_run x 0 c hc w
theorem sub64_run (x y c:Nat) (hc:c≤1) (w:World) :
  (callFunc 277 #[.int .u64 (x:Int),.int .u64 (y:Int),.int .u64 (c:Int)]).run Tryz.prog w=.ok (.value (.tuple #[.int .u64 ((subS x y c:Nat):Int),.int .u64 ((subC x y c:Nat):Int)])) w:=by
 rw [run_callFunc_extern (fn:=Tryz.f277) Tryz.func277 (by kernel_rfl) (by kernel_rfl) (by kernel_rfl) (e:=sub64Entry) (by kernel_rfl),run_sub64 x y c hc]
 simp only [Result.andThen]
 unfold subS subC B64
 rfl
theorem sub64_run0 (x y:Nat) (w:World) :
  (callFunc 277 #[.int .u64 (x:Int),.int .u64 (y:Int),.int .u64 0]).run Tryz.prog w=.ok (.value (.tuple #[.int .u64 ((subS x y 0:Nat):Int),.int .u64 ((subC x y 0:Nat):Int)])) w:=
 sub64_run x y 0 (by omega) w
theorem sub64_runz (x c:Nat) (hc:c≤1) (w:World) :
  (callFunc 277 #[.int .u64 (x:Int),.int .u64 0,.int .u64 (c:Int)]).run Tryz.prog w=.ok (.value (.tuple #[.int .u64 ((subS x 0 c:Nat):Int),.int .u64 ((subC x 0 c:Nat):Int)])) w:=
 sub64_run x 0 c hc w
theorem Mul64_calls (x y:Nat) (hx:x<B64) (hy:y<B64) (w:World) :
  Calls Tryz.prog 107 #[.int .u64 (x:Int),.int .u64 (y:Int)] w fun e w'=>e=.returned (.tuple #[.int .u64 ((mulH x y:Nat):Int),.int .u64 ((mulL x y:Nat):Int)])∧w=w':=by
 unfold mulH mulL
 unfold B64 at *
 obtain ⟨bd,bt,bw,hhi⟩:=Lib.mul64_hi x y hx hy
 have ba:=Lib.half_mul_le (a:=x / 4294967296) (b:=y / 4294967296) (by omega) (by omega)
 have bb:=Lib.half_mul_le (a:=x / 4294967296) (b:=y % 4294967296) (by omega) (by omega)
 have bc:=Lib.half_mul_le (a:=x % 4294967296) (b:=y / 4294967296) (by omega) (by omega)
 have ba':x / 4294967296*(y / 4294967296)<18446744073709551616:=by omega
 have bb':x / 4294967296*(y % 4294967296)<18446744073709551616:=by omega
 have bc':x % 4294967296*(y / 4294967296)<18446744073709551616:=by omega
 have bh1:x / 4294967296*(y / 4294967296)+(x / 4294967296*(y % 4294967296)+x % 4294967296*(y % 4294967296) / 4294967296) / 4294967296<18446744073709551616:=by omega
 have bh:x / 4294967296*(y / 4294967296)+(x / 4294967296*(y % 4294967296)+x % 4294967296*(y % 4294967296) / 4294967296) / 4294967296+((x / 4294967296*(y % 4294967296)+x % 4294967296*(y % 4294967296) / 4294967296) % 4294967296+x % 4294967296*(y / 4294967296)) / 4294967296<18446744073709551616:=by omega
 go_enter Tryz.func107,Tryz.ntmps107
 go_wp2
 simp only [Mul64.maskN x hx,Mul64.maskN y hy,Mul64.divN,Mul64.mulN,Mul64.addN,Mul64.wrapN _ bd,Mul64.wrapN _ bb',Mul64.wrapN _ bt,Mul64.maskN _ bt,Mul64.wrapN _ bc',Mul64.wrapN _ bw,Mul64.wrapN _ ba',Mul64.wrapN _ bh1,Mul64.wrapN _ bh,Mul64.wrapM (x*y)]
 rw [hhi]
 go_ret2
 exact ⟨rfl,rfl⟩
end
section
open Go.RowKit Go.Sort
abbrev E64 (d:Nat):Value:=.int .u64 (d:Int)
def HoldsL (w:World) (b o:Nat) (xs:List Nat):Prop:=∀ j,j<xs.length→w.cell? ⟨b,o+j,none⟩=some (E64 (xs[j]?.getD 0))∧w.frozen? ⟨b,o+j,none⟩=false
def putL (w:World) (q b o:Nat) (xs:List Nat):World:=putRow E64 (Sort.ahead w q) b o xs.toArray
theorem bang_getD (xs:List Nat) (j:Nat):xs.toArray[j]! = xs[j]?.getD 0:=by
 by_cases h:j<xs.length
 ·rw [getElem!_pos _ j (by simpa using h)];simp [h]
 ·rw [getElem!_neg _ j (by simpa using h),List.getElem?_eq_none (by omega)];rfl
theorem holdsL_iff {w:World} {b o:Nat} {xs:List Nat}:HoldsL w b o xs↔Holds E64 w b o xs.toArray:=by
 unfold HoldsL Holds
 simp only [List.size_toArray,bang_getD]
theorem HoldsL.digs {w:World} {b o:Nat} {xs:List Nat} (h:HoldsL w b o xs):Digs w b o xs:=fun j hj=>(h j hj).1
theorem HoldsL.below {B:Nat} {w w':World} {b o:Nat} {xs:List Nat} (h:HoldsL w b o xs) (hb:Below B w w') (hB:b<B):HoldsL w' b o xs:=
 fun j hj=>⟨(hb.cell (p:=⟨b,o+j,none⟩) hB).trans (h j hj).1,(hb.frozen (p:=⟨b,o+j,none⟩) hB).trans (h j hj).2⟩
theorem HoldsL.drop {w:World} {b o:Nat} {xs:List Nat} (h:HoldsL w b o xs) (k:Nat):HoldsL w b (o+k) (xs.drop k):=fun j hj=>by
 have:=h (k+j) (by simp at hj;omega)
 rw [Nat.add_assoc,List.getElem?_drop]
 exact this
theorem HoldsL.take {w:World} {b o:Nat} {xs:List Nat} (h:HoldsL w b o xs) (k:Nat):HoldsL w b o (xs.take k):=fun j hj=>by
 have hj':j<k∧j<xs.length:=by simp at hj;omega
 have:=h j hj'.2
 rw [List.getElem?_take_of_lt hj'.1]
 exact this
theorem putL_self (w:World) (b o:Nat) (xs:List Nat) (h:HoldsL w b o xs):putL w 0 b o xs=w:=by
 unfold putL
 rw [ahead_zero]
 exact putRow_self E64 w b o xs.toArray (holdsL_iff.1 h)
theorem holdsL_putL (w:World) (q b o:Nat) (xs ys:List Nat) (h:HoldsL w b o xs) (hl:ys.length=xs.length):HoldsL (putL w q b o ys) b o ys:=
 holdsL_iff.2 (holds_putRow E64 (Sort.ahead w q) b o xs.toArray ys.toArray (holds_ahead _ _ _ _ _ _ (holdsL_iff.1 h)) (by simpa using hl))
theorem putL_set (w:World) (q b o:Nat) (xs:List Nat) (i x:Nat) (hi:i<xs.length):(putL w q b o xs).setCell ⟨b,o+i,none⟩ (.int .u64 (x:Int))=putL w q b o (xs.set i x):=by
 unfold putL
 rw [show (Value.int .u64 (x:Int))=E64 x from rfl,putRow_set E64 _ b o xs.toArray i x (by simpa using hi),List.setIfInBounds_toArray]
theorem putL_drewN (w:World) (m q b o:Nat) (xs:List Nat):(putL w m b o xs).drewN q=putL w (m+q) b o xs:=by
 show Sort.ahead (putRow E64 (Sort.ahead w m) b o xs.toArray) q=_
 rw [putRow_ahead E64 w m,ahead_ahead,← putRow_ahead]
 rfl
theorem putL_drew (w:World) (m b o:Nat) (xs:List Nat):(putL w m b o xs).drew=putL w (m+1) b o xs:=putL_drewN w m 1 b o xs
theorem putL_putL (w:World) (m q b o:Nat) (xs ys:List Nat) (h:ys.length=xs.length):putL (putL w m b o xs) q b o ys=putL w (m+q) b o ys:=by
 unfold putL
 rw [← putRow_ahead,putRow_putRow E64 _ b o xs.toArray ys.toArray (by simpa using h),ahead_ahead]
theorem cell_putL_other (w:World) (q b o:Nat) (xs:List Nat) (a:Addr) (h:a.block≠b∨a.off<o∨o+xs.length≤a.off):(putL w q b o xs).cell? a=w.cell? a:=by
 unfold putL
 rw [cell?_putRow_other E64 _ b o xs.toArray a (by simpa using h),cell?_ahead]
theorem frozen_putL (w:World) (q b o:Nat) (xs:List Nat) (a:Addr):(putL w q b o xs).frozen? a=w.frozen? a:=by
 unfold putL
 rw [frozen?_putRow,frozen?_ahead]
@[simp] theorem size_putL (w:World) (q b o:Nat) (xs:List Nat):(putL w q b o xs).heap.size=w.heap.size:=by
 unfold putL
 rw [size_putRow]
 rfl
theorem Digs.putL {w:World} {q b o bb bo:Nat} {xs ys:List Nat} (h:Digs w bb bo ys) (hne:bb≠b∨bo+ys.length≤o∨o+xs.length≤bo):Digs (putL w q b o xs) bb bo ys:=fun j hj=>by
 rw [cell_putL_other _ _ _ _ _ _ (by simp only;omega)]
 exact h j hj
theorem HoldsL.putL {w:World} {q b o bb bo:Nat} {xs ys:List Nat} (h:HoldsL w bb bo ys) (hne:bb≠b∨bo+ys.length≤o∨o+xs.length≤bo):HoldsL (putL w q b o xs) bb bo ys:=fun j hj=>by
 rw [cell_putL_other _ _ _ _ _ _ (by simp only;omega),frozen_putL]
 exact h j hj
theorem heap_putL (w:World) (q b o:Nat) (xs:List Nat) (k:Nat) (h:k≠b):(putL w q b o xs).heap[k]? = w.heap[k]?:=by
 unfold Go.Proofs.YtmijlcldmefggaaGreatDoor.putL putRow mapBlock Sort.ahead
 simp only [Array.getElem?_modify]
 rw [if_neg (by omega)]
theorem below_putL {B:Nat} (w:World) (q b o:Nat) (xs:List Nat) (h:B≤b):Below B w (putL w q b o xs):=
 ⟨rfl,rfl,rfl,by simp,fun k hk=>heap_putL _ _ _ _ _ _ (by omega)⟩
end
section
theorem val_take_getD (xs:List Nat) (k:Nat):val (xs.take (k+1))=val (xs.take k)+B64 ^ k*xs[k]?.getD 0:=by
 by_cases hk:k<xs.length
 ·rw [val_take_succ xs k hk,List.getElem?_eq_getElem hk];rfl
 ·rw [List.take_of_length_le (by omega),List.take_of_length_le (by omega),List.getElem?_eq_none (by omega)];simp
theorem take_set_succ (xs:List Nat) (k s:Nat) (hk:k<xs.length):(xs.set k s).take (k+1)=xs.take k ++ [s]:=by
 rw [List.take_succ_eq_append_getElem (by simpa using hk),List.take_set_of_le (Nat.le_refl _),List.getElem_set_self]
theorem val_set_take (xs:List Nat) (k s:Nat) (hk:k<xs.length):val ((xs.set k s).take (k+1))=val (xs.take k)+B64 ^ k*s:=by
 rw [take_set_succ xs k s hk,val_snoc,List.length_take,Nat.min_eq_left (by omega)]
theorem drop_set_succ (xs:List Nat) (k s:Nat):(xs.set k s).drop (k+1)=xs.drop (k+1):=by
 rw [List.drop_set_of_lt (by omega)]
theorem Dig.set {xs:List Nat} (h:Dig xs) (k:Nat) {s:Nat} (hs:s<B64):Dig (xs.set k s):=fun d hd=>by
 rcases List.mem_or_eq_of_mem_set hd with h1 | h1
 ·exact h d h1
 ·omega
structure Part (ay dk:List Nat) (k:Nat):Prop where
 len:dk.length=ay.length
 dig:Dig dk
 rest:dk.drop k=ay.drop k
theorem Part.start {ay:List Nat} (h:Dig ay):Part ay ay 0:=⟨rfl,h,rfl⟩
theorem Part.get {ay dk:List Nat} {k:Nat} (h:Part ay dk k) (j:Nat) (hj:k≤j):dk[j]?.getD 0=ay[j]?.getD 0:=by
 have:=congrArg (fun l=>l[j - k]?.getD 0) h.rest
 simp only [List.getElem?_drop] at this
 rwa [show k+(j - k)=j by omega] at this
theorem Part.step {ay dk:List Nat} {k:Nat} (h:Part ay dk k) {s:Nat} (hs:s<B64):Part ay (dk.set k s) (k+1):=by
 refine ⟨by rw [List.length_set,h.len],h.dig.set k hs,?_⟩
 rw [drop_set_succ]
 have:=congrArg (List.drop 1) h.rest
 simpa only [List.drop_drop,Nat.add_comm] using this
theorem Part.val {ay dk:List Nat} {k:Nat} (h:Part ay dk k) (hk:k≤ay.length):val dk=val (dk.take k)+B64 ^ k*val (ay.drop k):=by
 rw [val_split dk k (by rw [h.len];exact hk),h.rest]
def Inc (ay bs dk:List Nat) (k c:Nat):Prop:=Part ay dk k∧c≤1∧val (dk.take k)+c*B64 ^ k=val (ay.take k)+val (bs.take k)
theorem Inc.start {ay:List Nat} (bs:List Nat) (h:Dig ay):Inc ay bs ay 0 0:=⟨Part.start h,by omega,by simp [val_nil]⟩
theorem Inc.step {ay bs dk:List Nat} {k c s c':Nat} (h:Inc ay bs dk k c) (hk:k<ay.length) (hs:s<B64) (hc:c'≤1) (e:s+B64*c' = dk[k]?.getD 0+bs[k]?.getD 0+c):Inc ay bs (dk.set k s) (k+1) c':=by
 obtain ⟨hp,_,hv⟩:=h
 refine ⟨hp.step hs,hc,?_⟩
 rw [val_set_take dk k s (by rw [hp.len];exact hk),val_take_getD ay k,val_take_getD bs k,Nat.pow_succ,← hp.get k (Nat.le_refl _)]
 generalize dk[k]?.getD 0=x at *
 generalize bs[k]?.getD 0=y at *
 generalize B64 ^ k=P at *
 have e2:P*(s+B64*c')=P*(x+y+c):=by rw [e]
 grind
theorem Inc.done {ay bs dk:List Nat} {k c:Nat} (h:Inc ay bs dk k c) (hk:k≤ay.length) (hb:bs.length≤k) (hd:k=ay.length∨c=0):val dk+c*B64 ^ ay.length=val ay+val bs:=by
 obtain ⟨hp,_,hv⟩:=h
 rw [hp.val hk,val_split ay k hk]
 rw [List.take_of_length_le hb] at hv
 rcases hd with rfl | rfl
 ·rw [List.drop_of_length_le (Nat.le_refl _)];simp only [val_nil];omega
 ·omega
def Dec (ay bs dk:List Nat) (k c:Nat):Prop:=Part ay dk k∧c≤1∧val (dk.take k)+val (bs.take k)=val (ay.take k)+c*B64 ^ k
theorem Dec.start {ay:List Nat} (bs:List Nat) (h:Dig ay):Dec ay bs ay 0 0:=⟨Part.start h,by omega,by simp [val_nil]⟩
theorem Dec.step {ay bs dk:List Nat} {k c s c':Nat} (h:Dec ay bs dk k c) (hk:k<ay.length) (hs:s<B64) (hc:c'≤1) (e:s+bs[k]?.getD 0+c=dk[k]?.getD 0+B64*c'):Dec ay bs (dk.set k s) (k+1) c':=by
 obtain ⟨hp,_,hv⟩:=h
 refine ⟨hp.step hs,hc,?_⟩
 rw [val_set_take dk k s (by rw [hp.len];exact hk),val_take_getD ay k,val_take_getD bs k,Nat.pow_succ,← hp.get k (Nat.le_refl _)]
 generalize dk[k]?.getD 0=x at *
 generalize bs[k]?.getD 0=y at *
 generalize B64 ^ k=P at *
 have e2:P*(s+y+c)=P*(x+B64*c'):=by rw [e]
 grind
theorem Dec.done {ay bs dk:List Nat} {k c:Nat} (h:Dec ay bs dk k c) (hk:k≤ay.length) (hb:bs.length≤k) (hd:k=ay.length∨c=0):val dk+val bs=val ay+c*B64 ^ ay.length:=by
 obtain ⟨hp,_,hv⟩:=h
 rw [hp.val hk,val_split ay k hk]
 rw [List.take_of_length_le hb] at hv
 rcases hd with rfl | rfl
 ·rw [List.drop_of_length_le (Nat.le_refl _)];simp only [val_nil];omega
 ·omega
theorem no_borrow {ay bs dk:List Nat} {c:Nat} (hd:Dig dk) (hl:dk.length=ay.length) (h:val dk+val bs=val ay+c*B64 ^ ay.length) (hle:val bs≤val ay):c=0:=by
 have h1:=val_lt hd
 rw [hl] at h1
 rcases Nat.eq_zero_or_pos c with h0 | h0
 ·exact h0
 ·have:1*B64 ^ ay.length≤c*B64 ^ ay.length:=Nat.mul_le_mul_right _ h0
  omega
def IncT (ay bs dk:List Nat) (m k c:Nat):Prop:=Part ay dk k∧c<B64∧val (dk.take k)+c*B64 ^ k=val (ay.take k)+m*val (bs.take k)
theorem IncT.start {ay:List Nat} (bs:List Nat) (m:Nat) (h:Dig ay):IncT ay bs ay m 0 0:=⟨Part.start h,B64_pos,by simp [val_nil]⟩
theorem IncT.step {ay bs dk:List Nat} {m k c s c':Nat} (h:IncT ay bs dk m k c) (hk:k<ay.length) (hs:s<B64) (hc:c' < B64) (e:s+B64*c' = dk[k]?.getD 0+bs[k]?.getD 0*m+c):IncT ay bs (dk.set k s) m (k+1) c':=by
 obtain ⟨hp,_,hv⟩:=h
 refine ⟨hp.step hs,hc,?_⟩
 rw [val_set_take dk k s (by rw [hp.len];exact hk),val_take_getD ay k,val_take_getD bs k,Nat.pow_succ,← hp.get k (Nat.le_refl _)]
 generalize dk[k]?.getD 0=x at *
 generalize bs[k]?.getD 0=y at *
 generalize B64 ^ k=P at *
 have e2:P*(s+B64*c')=P*(x+y*m+c):=by rw [e]
 grind
def DecT (ay bs dk:List Nat) (m k c:Nat):Prop:=Part ay dk k∧c<B64∧val (dk.take k)+m*val (bs.take k)=val (ay.take k)+c*B64 ^ k
theorem DecT.start {ay:List Nat} (bs:List Nat) (m:Nat) (h:Dig ay):DecT ay bs ay m 0 0:=⟨Part.start h,B64_pos,by simp [val_nil]⟩
theorem DecT.step {ay bs dk:List Nat} {m k c s c':Nat} (h:DecT ay bs dk m k c) (hk:k<ay.length) (hs:s<B64) (hc:c' < B64) (e:s+bs[k]?.getD 0*m+c=dk[k]?.getD 0+B64*c'):DecT ay bs (dk.set k s) m (k+1) c':=by
 obtain ⟨hp,_,hv⟩:=h
 refine ⟨hp.step hs,hc,?_⟩
 rw [val_set_take dk k s (by rw [hp.len];exact hk),val_take_getD ay k,val_take_getD bs k,Nat.pow_succ,← hp.get k (Nat.le_refl _)]
 generalize dk[k]?.getD 0=x at *
 generalize bs[k]?.getD 0=y at *
 generalize B64 ^ k=P at *
 have e2:P*(s+y*m+c)=P*(x+B64*c'):=by rw [e]
 grind
theorem times_carry {x y m c lo hi s1 c1 s2 c2:Nat} (hx:x<B64) (hy:y<B64) (hm:m<B64) (hc:c<B64) (e1:lo+B64*hi=y*m) (e2:s1+B64*c1=lo+c) (e3:s2+B64*c2=x+s1) :
  hi+c1+c2<B64∧s2+B64*(hi+c1+c2)=x+y*m+c:=by
 have e:s2+B64*(hi+c1+c2)=x+y*m+c:=by rw [Nat.mul_add,Nat.mul_add];omega
 refine ⟨?_,e⟩
 have b1:y*m≤(B64 - 1)*(B64 - 1):=Nat.mul_le_mul (by omega) (by omega)
 have b2:(B64 - 1)*(B64 - 1)+2*(B64 - 1)+1=B64*B64:=by decide
 have b3:B64*(hi+c1+c2)<B64*B64:=by omega
 exact Nat.lt_of_mul_lt_mul_left b3
theorem times_borrow {x y m c lo hi s1 c1 s2 c2:Nat} (hy:y<B64) (hm:m<B64) (hc:c<B64) (h2:s2<B64) (e1:lo+B64*hi=y*m) (e2:s1+B64*c1=lo+c) (e3:s2+s1=x+B64*c2) :
  hi+c1+c2<B64∧s2+y*m+c=x+B64*(hi+c1+c2):=by
 have e:s2+y*m+c=x+B64*(hi+c1+c2):=by rw [Nat.mul_add,Nat.mul_add];omega
 refine ⟨?_,e⟩
 have b1:y*m≤(B64 - 1)*(B64 - 1):=Nat.mul_le_mul (by omega) (by omega)
 have b2:(B64 - 1)*(B64 - 1)+2*(B64 - 1)+1=B64*B64:=by decide
 have b3:B64*(hi+c1+c2)<B64*B64:=by omega
 exact Nat.lt_of_mul_lt_mul_left b3
end
section
def cmpN (a b:Nat):Int:=if a<b then -1 else if a=b then 0 else 1
theorem cmpN_lt {a b:Nat} (h:a<b):cmpN a b = -1:=by unfold cmpN;rw [if_pos h]
theorem cmpN_eq (a:Nat):cmpN a a=0:=by unfold cmpN;rw [if_neg (by omega),if_pos rfl]
theorem cmpN_gt {a b:Nat} (h:b<a):cmpN a b=1:=by unfold cmpN;rw [if_neg (by omega),if_neg (by omega)]
theorem cmpN_zero {a b:Nat} (h:cmpN a b=0):a=b:=by
 unfold cmpN at h
 split at h
 ·omega
 ·split at h <;> omega
theorem cmpN_cases (a b:Nat):cmpN a b = -1∨cmpN a b=0∨cmpN a b=1:=by
 unfold cmpN
 split
 ·simp
 ·split <;> simp
theorem cmpN_bd (a b:Nat):-1≤cmpN a b∧cmpN a b≤1:=by rcases cmpN_cases a b with h | h | h <;> omega
theorem cmpN_add_mul (P a b x y:Nat) (hx:x<P) (hy:y<P) (h:cmpN a b≠0):cmpN (x+P*a) (y+P*b)=cmpN a b:=by
 rcases Nat.lt_trichotomy a b with h1 | h1 | h1
 ·rw [cmpN_lt h1]
  have:P*(a+1)≤P*b:=Nat.mul_le_mul_left _ h1
  exact cmpN_lt (by rw [Nat.mul_add] at this;omega)
 ·subst h1;rw [cmpN_eq] at h;omega
 ·rw [cmpN_gt h1]
  have:P*(b+1)≤P*a:=Nat.mul_le_mul_left _ h1
  exact cmpN_gt (by rw [Nat.mul_add] at this;omega)
theorem cmpN_add (c a b:Nat):cmpN (a+c) (b+c)=cmpN a b:=by
 rcases Nat.lt_trichotomy a b with h1 | h1 | h1
 ·rw [cmpN_lt h1,cmpN_lt (by omega)]
 ·subst h1;rw [cmpN_eq,cmpN_eq]
 ·rw [cmpN_gt h1,cmpN_gt (by omega)]
theorem val_drop (xs:List Nat) (k:Nat) (hk:k<xs.length):val (xs.drop k)=xs[k]?.getD 0+B64*val (xs.drop (k+1)):=by
 rw [List.drop_eq_getElem_cons hk,val_cons,List.getElem?_eq_getElem hk];rfl
def CmpAt (xs ys:List Nat) (k:Nat) (r:Int):Prop:=
 k≤xs.length∧(xs.length=ys.length∧r=cmpN (val (xs.drop k)) (val (ys.drop k))∨xs.length≠ys.length∧r=cmpN xs.length ys.length)
theorem CmpAt.bd {xs ys:List Nat} {k:Nat} {r:Int} (h:CmpAt xs ys k r):-1≤r∧r≤1:=by
 rcases h.2 with ⟨_,rfl⟩ | ⟨_,rfl⟩ <;> exact cmpN_bd _ _
theorem CmpAt.start (xs ys:List Nat):CmpAt xs ys xs.length (cmpN xs.length ys.length):=by
 refine ⟨Nat.le_refl _,?_⟩
 by_cases h:xs.length=ys.length
 ·exact .inl ⟨h,by rw [List.drop_of_length_le (Nat.le_refl _),List.drop_of_length_le (by omega),h,cmpN_eq,cmpN_eq]⟩
 ·exact .inr ⟨h,rfl⟩
theorem CmpAt.len {xs ys:List Nat} {k:Nat} (h:CmpAt xs ys k 0):xs.length=ys.length:=by
 rcases h.2 with ⟨e,_⟩ | ⟨e,h0⟩
 ·exact e
 ·exact cmpN_zero h0.symm
theorem CmpAt.step {xs ys:List Nat} {k:Nat} (h:CmpAt xs ys (k+1) 0):CmpAt xs ys k (cmpN (xs[k]?.getD 0) (ys[k]?.getD 0)):=by
 have hl:=h.len
 have hk:=h.1
 refine ⟨by omega,.inl ⟨hl,?_⟩⟩
 rcases h.2 with ⟨_,h0⟩ | ⟨e,_⟩
 ·have e:=cmpN_zero h0.symm
  rw [val_drop xs k (by omega),val_drop ys k (by omega),e,cmpN_add]
 ·omega
theorem CmpAt.done {xs ys:List Nat} {k:Nat} {r:Int} (h:CmpAt xs ys k r) (hd:k=0∨r≠0) (dx:Dig xs) (dy:Dig ys) (tx:Trimmed xs) (ty:Trimmed ys):r=cmpN (val xs) (val ys):=by
 obtain ⟨hk,⟨hl,rfl⟩ | ⟨hl,rfl⟩⟩:=h
 ·rcases hd with rfl | hd
  ·simp
  ·rw [val_split xs k hk,val_split ys k (by omega)]
   have a:=val_lt (dx.take k)
   have b:=val_lt (dy.take k)
   rw [List.length_take,Nat.min_eq_left hk] at a
   rw [List.length_take,Nat.min_eq_left (by omega)] at b
   rw [cmpN_add_mul _ _ _ _ _ a b hd]
 ·rcases Nat.lt_or_gt_of_ne hl with h1 | h1
  ·rw [cmpN_lt h1,cmpN_lt (val_lt_of_length dx ty h1)]
  ·rw [cmpN_gt h1,cmpN_gt (val_lt_of_length dy tx h1)]
def Tail0 (xs:List Nat) (n:Nat):Prop:=n≤xs.length∧(∀ j:Nat,n≤j→xs[j]?.getD 0=0)∧(n=0∨xs[n - 1]?.getD 0≠0)
theorem val_of_zeros (xs:List Nat) (h:∀ j:Nat,xs[j]?.getD 0=0):val xs=0:=by
 induction xs with
 | nil=>rfl
 | cons x xs ih =>
  have h0:x=0:=by simpa using h 0
  have ht:val xs=0:=ih (fun j=>by simpa using h (j+1))
  rw [val_cons,h0,ht];simp
theorem Tail0.val {xs:List Nat} {n:Nat} (h:Tail0 xs n):val (xs.take n)=val xs:=by
 rw [val_split xs n h.1,val_of_zeros (xs.drop n) (fun j=>by rw [List.getElem?_drop];exact h.2.1 _ (by omega))]
 simp
theorem Tail0.trimmed {xs:List Nat} {n:Nat} (h:Tail0 xs n):Trimmed (xs.take n):=by
 intro hne
 rcases h.2.2 with h0 | h0
 ·subst h0;simp at hne
 ·have hn:n≠0:=by intro e;subst e;simp at hne
  have hle:=h.1
  rw [List.getLast_eq_getElem]
  simp only [List.length_take,Nat.min_eq_left h.1,List.getElem_take]
  rw [List.getElem?_eq_getElem (by omega)] at h0
  exact h0
theorem Tail0.eq {xs:List Nat} {n m:Nat} (h:Tail0 xs n) (k:Tail0 xs m):n=m:=by
 rcases Nat.lt_trichotomy n m with h1 | h1 | h1
 ·rcases k.2.2 with h0 | h0
  ·omega
  ·exact absurd (h.2.1 (m - 1) (by omega)) h0
 ·exact h1
 ·rcases h.2.2 with h0 | h0
  ·omega
  ·exact absurd (k.2.1 (n - 1) (by omega)) h0
end
section
open Go.RowKit Go.Sort
theorem isNaN64_calls (x:Int) (w:World):Calls Tryz.prog 165 #[.int .u64 x] w fun e w'=>e=.returned (.bool false)∧w=w':=by
 go_enter Tryz.func165,Tryz.ntmps165
 go_wp2
 go_ret
 simp
theorem isNaNi_calls (x:Int) (w:World):Calls Tryz.prog 112 #[.int .i64 x] w fun e w'=>e=.returned (.bool false)∧w=w':=by
 go_enter Tryz.func112,Tryz.ntmps112
 go_wp2
 go_ret
 simp
theorem Compare64_calls (x y:Nat) (w:World):Calls Tryz.prog 114 #[.int .u64 (x:Int),.int .u64 (y:Int)] w fun e w'=>e=.returned (.int .i64 (cmpN x y))∧w=w':=by
 rcases Nat.lt_trichotomy x y with h | h | h
 ·rw [cmpN_lt h]
  go_enter Tryz.func114,Tryz.ntmps114
  go_wp2_with (go_at_call 165;refine (isNaN64_calls _ _).mono ?_;rintro e w' ⟨rfl,rfl⟩)
  go_ret
  simp
 ·subst h
  rw [cmpN_eq]
  go_enter Tryz.func114,Tryz.ntmps114
  go_wp2_with (go_at_call 165;refine (isNaN64_calls _ _).mono ?_;rintro e w' ⟨rfl,rfl⟩)
  go_ret
  simp
 ·rw [cmpN_gt h]
  go_enter Tryz.func114,Tryz.ntmps114
  go_wp2_with (go_at_call 165;refine (isNaN64_calls _ _).mono ?_;rintro e w' ⟨rfl,rfl⟩)
  go_ret
  simp
def cmpZ (a b:Int):Int:=if a<b then -1 else if a=b then 0 else 1
theorem cmpZ_nat (a b:Nat):cmpZ a b=cmpN a b:=by unfold cmpZ cmpN;simp only [Int.ofNat_lt,Int.ofNat_inj]
theorem Comparei_calls (x y:Int) (w:World):Calls Tryz.prog 64 #[.int .i64 x,.int .i64 y] w fun e w'=>e=.returned (.int .i64 (cmpZ x y))∧w=w':=by
 rcases Int.lt_trichotomy x y with h | h | h
 ·rw [show cmpZ x y = -1 from by unfold cmpZ;rw [if_pos h]]
  go_enter Tryz.func64,Tryz.ntmps64
  go_wp2_with (go_at_call 112;refine (isNaNi_calls _ _).mono ?_;rintro e w' ⟨rfl,rfl⟩)
  go_ret
  simp
 ·subst h
  rw [show cmpZ x x=0 from by unfold cmpZ;rw [if_neg (by omega),if_pos rfl]]
  go_enter Tryz.func64,Tryz.ntmps64
  go_wp2_with (go_at_call 112;refine (isNaNi_calls _ _).mono ?_;rintro e w' ⟨rfl,rfl⟩)
  go_ret
  simp
 ·rw [show cmpZ x y=1 from by unfold cmpZ;rw [if_neg (by omega),if_neg (by omega)]]
  go_enter Tryz.func64,Tryz.ntmps64
  go_wp2_with (go_at_call 112;refine (isNaNi_calls _ _).mono ?_;rintro e w' ⟨rfl,rfl⟩)
  go_ret
  simp
def RetTail (w:World) (xs:List Nat) (e:Ending) (w':World):Prop:=∃ n:Nat,e=.returned (.int .i64 (n:Int))∧Tail0 xs n∧w=w'
theorem length_calls (b o cp:Nat) (xs:List Nat) (w:World) (hx:Digs w b o xs) (hsz:xs.length≤1099511627776) :
  Calls Tryz.prog 216 #[.slice (some ⟨b,o,none⟩) xs.length cp] w (RetTail w xs):=by
 go_enter Tryz.func216,Tryz.ntmps216
 go_wp2
 go_loop [3] (fun nv=>∃ n:Nat,nv=.int .i64 n∧n≤xs.length∧∀ j:Nat,n≤j→xs[j]?.getD 0=0) (fun nv=>(intOf nv).toNat)
 case atStart=>exact ⟨xs.length,rfl,Nat.le_refl _,fun j hj=>by rw [List.getElem?_eq_none hj];rfl⟩
 case round =>
  obtain ⟨n,rfl,hn,hz⟩:=hrel
  have HZ:=hid hz
  clear hz
  by_cases h0:n=0
  ·subst h0
   go_wp2
   go_ret
   exact ⟨0,rfl,⟨by omega,HZ.out,.inl rfl⟩,rfl⟩
  ·obtain ⟨m,rfl⟩:∃ m,n=m+1:=⟨n - 1,by omega⟩
   obtain ⟨x,hxm⟩:∃ x,xs[m]?.getD 0=x:=⟨_,rfl⟩
   have cx:w.cell? ⟨b,o+m,none⟩=some (.int .u64 (x:Int)):=by rw [hx m (by omega),hxm]
   have HX:=hid hxm
   clear hxm hx h0
   by_cases hx0:x=0
   ·subst hx0
    go_wp2
    go_round
    case rel =>
     refine ⟨m,by go_num,by omega,fun j hj=>?_⟩
     rcases Nat.lt_or_ge j (m+1) with h1 | h1
     ·rw [show j=m by omega];exact HX.out
     ·exact HZ.out j h1
    case measure=>simp [intOf]
   ·have ht:((x:Int) == 0)=false:=by rw [beq_eq_false_iff_ne];omega
    go_wp2
    go_ret
    exact ⟨m+1,rfl,⟨hn,HZ.out,.inr (by rw [Nat.add_sub_cancel,HX.out];exact hx0)⟩,rfl⟩
def RetTrim (w:World) (b o:Nat) (xs:List Nat) (e:Ending) (w':World):Prop:=∃ n:Nat,e=.returned (.slice (some ⟨b,o,none⟩) n n)∧Tail0 xs n∧w=w'
theorem trim_calls (b o cp:Nat) (xs:List Nat) (w:World) (hx:Digs w b o xs) (hsz:xs.length≤1099511627776) (hcp:xs.length≤cp) :
  Calls Tryz.prog 161 #[.slice (some ⟨b,o,none⟩) xs.length cp] w (RetTrim w b o xs):=by
 go_enter Tryz.func161,Tryz.ntmps161
 go_wp2_with fail
 refine (length_calls b o cp xs w hx hsz).mono ?_
 rintro e w' ⟨n,rfl,ht,rfl⟩
 have hn:=ht.1
 have HT:=hid ht
 clear ht hx
 go_wp2
 go_ret
 exact ⟨n,by simp,HT.out,rfl⟩
theorem at_calls (b o cp i:Nat) (xs:List Nat) (w:World) (hx:Digs w b o xs) :
  Calls Tryz.prog 279 #[.slice (some ⟨b,o,none⟩) xs.length cp,.int .i64 (i:Int)] w fun e w'=>e=.returned (.int .u64 ((xs[i]?.getD 0:Nat):Int))∧w=w':=by
 obtain ⟨x,hxi⟩:∃ x,xs[i]?.getD 0=x:=⟨_,rfl⟩
 rw [hxi]
 by_cases h:i<xs.length
 ·have cx:w.cell? ⟨b,o+i,none⟩=some (.int .u64 (x:Int)):=by rw [hx i h,hxi]
  clear hxi hx
  go_enter Tryz.func279,Tryz.ntmps279
  go_wp2
  go_ret
  simp
 ·obtain rfl:x=0:=by rw [← hxi,List.getElem?_eq_none (by omega)];rfl
  clear hxi hx
  go_enter Tryz.func279,Tryz.ntmps279
  go_wp2
  go_ret
  simp
theorem cmp_calls (b o cp b2 o2 cp2:Nat) (xs ys:List Nat) (w:World) (hx:Digs w b o xs) (hy:Digs w b2 o2 ys) (dx:Dig xs) (dy:Dig ys) (tx:Trimmed xs) (ty:Trimmed ys) (hsx:xs.length≤1099511627776) :
  Calls Tryz.prog 113 #[.slice (some ⟨b,o,none⟩) xs.length cp,.slice (some ⟨b2,o2,none⟩) ys.length cp2] w fun e w'=>e=.returned (.int .i64 (cmpN (val xs) (val ys)))∧∃ q,w' = w.drewN q:=by
 go_enter Tryz.func113,Tryz.ntmps113
 go_wp2_with (go_at_call 64;refine (Comparei_calls _ _ _).mono ?_;rintro e w' ⟨rfl,rfl⟩)
 rw [cmpZ_nat]
 have hb:=cmpN_bd xs.length ys.length
 go_loopw [5,6] (fun rv iv wr=>∃ (k q:Nat) (r:Int),iv=.int .i64 ((k:Int) - 1)∧rv=.int .i64 r∧wr=w.drewN q∧CmpAt xs ys k r) (fun _ iv _=>(intOf iv+1).toNat)
 case atStart=>exact ⟨xs.length,0,_,rfl,rfl,rfl,CmpAt.start xs ys⟩
 case round =>
  clear hb
  obtain ⟨k,q,r,rfl,rfl,hwr,hC⟩:=hrel
  have hk:=hC.1
  have hr:=hC.bd
  by_cases hgo:k≠0∧r=0
  ·obtain ⟨h0,rfl⟩:=hgo
   obtain ⟨m,rfl⟩:∃ m,k=m+1:=⟨k - 1,by omega⟩
   have hl:=hC.len
   obtain ⟨x,hxm⟩:∃ x,xs[m]?.getD 0=x:=⟨_,rfl⟩
   obtain ⟨y,hym⟩:∃ y,ys[m]?.getD 0=y:=⟨_,rfl⟩
   have cx:wr.cell? ⟨b,o+m,none⟩=some (.int .u64 (x:Int)):=by rw [hwr];exact (hx m (by omega)).trans (by rw [hxm])
   have cy:wr.cell? ⟨b2,o2+m,none⟩=some (.int .u64 (y:Int)):=by rw [hwr];exact (hy m (by omega)).trans (by rw [hym])
   have hml:m<ys.length:=by omega
   have HC:Hid (CmpAt xs ys m (cmpN x y)):=by rw [← hxm,← hym];exact hC.step
   have HW:=hid hwr
   clear hC hwr hxm hym hx hy hr h0 hl
   go_wp2
   go_quiet ((go_at_call 114;exact Calls.quiet_of_same ((Compare64_calls _ _ _).mono fun _ _ ⟨h1,h2⟩=>⟨h1,h2.symm⟩)))
   go_wp2
   go_roundw
   case rel=>exact ⟨m,_,_,by go_num,rfl,by rw [HW.out,World.drewN_drewN],HC.out⟩
   case measure=>simp [intOf]
  ·have hd:k=0∨r≠0:=by omega
   have HD:=hid (hC.done hd dx dy tx ty)
   have HW:=hid hwr
   clear hC hwr hx hy
   by_cases h0:k=0
   ·subst h0
    go_wp2
    go_ret
    exact ⟨congrArg (fun t=>Ending.returned (.int .i64 t)) HD.out,q,HW.out⟩
   ·have ht:(r == 0)=false:=by rw [beq_eq_false_iff_ne];omega
    go_wp2
    go_ret
    exact ⟨congrArg (fun t=>Ending.returned (.int .i64 t)) HD.out,q,HW.out⟩
theorem length_callsN (nx:Nat) (b o cp:Nat) (xs:List Nat) (w:World) (hx:Digs w b o xs) (hsz:xs.length≤1099511627776) (hnx:xs.length=nx) :
  Calls Tryz.prog 216 #[.slice (some ⟨b,o,none⟩) nx cp] w (RetTail w xs):=by
 subst hnx
 exact length_calls b o cp xs w hx hsz
theorem trim_callsN (nx:Nat) (b o cp:Nat) (xs:List Nat) (w:World) (hx:Digs w b o xs) (hsz:xs.length≤1099511627776) (hcp:xs.length≤cp) (hnx:xs.length=nx) :
  Calls Tryz.prog 161 #[.slice (some ⟨b,o,none⟩) nx cp] w (RetTrim w b o xs):=by
 subst hnx
 exact trim_calls b o cp xs w hx hsz hcp
theorem at_callsN (nx:Nat) (b o cp i:Nat) (xs:List Nat) (w:World) (hx:Digs w b o xs) (hnx:xs.length=nx) :
  Calls Tryz.prog 279 #[.slice (some ⟨b,o,none⟩) nx cp,.int .i64 (i:Int)] w fun e w'=>e=.returned (.int .u64 ((xs[i]?.getD 0:Nat):Int))∧w=w':=by
 subst hnx
 exact at_calls b o cp i xs w hx
theorem cmp_callsN (nx ny:Nat) (b o cp b2 o2 cp2:Nat) (xs ys:List Nat) (w:World) (hx:Digs w b o xs) (hy:Digs w b2 o2 ys) (dx:Dig xs) (dy:Dig ys) (tx:Trimmed xs) (ty:Trimmed ys) (hsx:xs.length≤1099511627776) (hnx:xs.length=nx) (hny:ys.length=ny) :
  Calls Tryz.prog 113 #[.slice (some ⟨b,o,none⟩) nx cp,.slice (some ⟨b2,o2,none⟩) ny cp2] w fun e w'=>e=.returned (.int .i64 (cmpN (val xs) (val ys)))∧∃ q,w' = w.drewN q:=by
 subst hnx hny
 exact cmp_calls b o cp b2 o2 cp2 xs ys w hx hy dx dy tx ty hsx
end
end Go.Proofs.YtmijlcldmefggaaGreatDoor
