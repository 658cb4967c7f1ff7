/- What the proof rests on, part 2. -/
import Derived.Test.YtmijlcldmefggaaGreatDoorZ00
import Derived.Laws.Bits64
import Derived.Test.YtmijlcldmefggaaGreatDoorZ01
import Derived.Lib.ItoaNum
import Derived.Shelf.Strings.Builder1
import Derived.Shelf.Strings.Builder2
import Derived.Shelf.Small.Bits
import Derived.Shelf.Small.Wraps
import Derived.Shelf.Strings.BuilderF
import Derived.Shelf.Strings.BuilderK
import Derived.Shelf.Strings.Builder2Cap
import Derived.Shelf.Strconv.Itoa0
import Derived.Shelf.Strconv.Itoa1
import Derived.Shelf.LaysM
import Derived.Shelf.Strconv.Itoa2
import Derived.Shelf.Strings.Search1
import Derived.Shelf.Strings.Search2
import Derived.Shelf.Strings.Cut
import Derived.Shelf.Strings.Shaped
import Derived.Shelf.Strings.Prefix
import Derived.Shelf.Bits.Mul64
import Derived.Shelf.Strings.Repeat
import Derived.Shelf.Strings.BuilderCap
import Derived.Shelf.Slices.Reverse
import Derived.Ground.Names2Prog
import Derived.Shelf.Slices.SearchI
import Derived.Shelf.Slices.Cells
import Derived.Ground.SlgnProg
import Derived.Shelf.SlicesE.Clone
import Derived.Test.YtmijlcldmefggaaGreatDoorProg
namespace Go.Proofs.YtmijlcldmefggaaGreatDoor
set_option maxRecDepth 100000
set_option maxHeartbeats 80000000
section
theorem two_split (n:Nat) (hn:n≤64):2 ^ n*2 ^ (64 - n)=B64:=by
 rw [← Nat.pow_add,show n+(64 - n)=64 by omega];rfl
theorem or_add (a b i:Nat) (hb:b<2 ^ i):(a*2 ^ i) ||| b=a*2 ^ i+b:=by
 have:=Nat.shiftLeft_add_eq_or_of_lt hb a
 rw [Nat.shiftLeft_eq] at this
 exact this.symm
theorem bits_or_nat (a b:Nat) (ha:a<B64) (hb:b<B64):bits .or .u64 (a:Int) (b:Int)=((a ||| b:Nat):Int):=by
 unfold B64 at *
 have hx:a ||| b<2 ^ 64:=Nat.or_lt_two_pow (by omega) (by omega)
 have h1:(BitVec.ofInt 64 (a:Int)).toNat=a:=by
  rw [BitVec.ofInt_natCast,BitVec.toNat_ofNat];exact Nat.mod_eq_of_lt (by omega)
 have h2:(BitVec.ofInt 64 (b:Int)).toNat=b:=by
  rw [BitVec.ofInt_natCast,BitVec.toNat_ofNat];exact Nat.mod_eq_of_lt (by omega)
 show IntKind.u64.wrap ((BitVec.ofInt 64 (a:Int) ||| BitVec.ofInt 64 (b:Int)).toNat:Int)=_
 rw [BitVec.toNat_or,h1,h2,IntKind.wrap_u64]
 omega
theorem wrap_nat (x:Nat):IntKind.u64.wrap (x:Int)=((x % B64:Nat):Int):=by rw [IntKind.wrap_u64];unfold B64;omega
theorem shl_mod (n x:Nat) (hn:n≤64):x*2 ^ n % B64=x % 2 ^ (64 - n)*2 ^ n:=by
 rw [← two_split n hn,Nat.mul_comm (2 ^ n) (2 ^ (64 - n)),Nat.mul_mod_mul_right]
theorem wrap_shl (n x:Nat) (hn:n≤64):IntKind.u64.wrap ((x:Int)*2 ^ n)=((x % 2 ^ (64 - n)*2 ^ n:Nat):Int):=by
 rw [show ((x:Int)*2 ^ n)=((x*2 ^ n:Nat):Int) by push_cast;rfl,wrap_nat,shl_mod n x hn]
theorem shr_nat (n x:Nat):(x:Int) / 2 ^ n=((x / 2 ^ n:Nat):Int):=by push_cast;rfl
def shl2 (n x y:Nat):Nat:=x % 2 ^ (64 - n)*2 ^ n+y / 2 ^ (64 - n)
def shr2 (n x y:Nat):Nat:=x / 2 ^ n+y % 2 ^ n*2 ^ (64 - n)
theorem up_lt (n y:Nat) (hn:n≤64) (hy:y<B64):y / 2 ^ (64 - n)<2 ^ n:=by
 rw [Nat.div_lt_iff_lt_mul (Nat.two_pow_pos _),two_split n hn];exact hy
theorem down_lt (n x:Nat) (hn:n≤64) (hx:x<B64):x / 2 ^ n<2 ^ (64 - n):=by
 rw [Nat.div_lt_iff_lt_mul (Nat.two_pow_pos _),Nat.mul_comm,two_split n hn];exact hx
theorem high_lt (n x c:Nat) (hn:n≤64) (hc:c<2 ^ n):x % 2 ^ (64 - n)*2 ^ n+c<B64:=by
 have h1:x % 2 ^ (64 - n)<2 ^ (64 - n):=Nat.mod_lt _ (Nat.two_pow_pos _)
 have h2:(x % 2 ^ (64 - n)+1)*2 ^ n≤2 ^ (64 - n)*2 ^ n:=Nat.mul_le_mul_right _ h1
 rw [Nat.mul_comm (2 ^ (64 - n)) (2 ^ n),two_split n hn,Nat.add_mul] at h2
 omega
theorem shl2_lt (n x y:Nat) (hn:n≤64) (hy:y<B64):shl2 n x y<B64:=high_lt n x _ hn (up_lt n y hn hy)
theorem shr2_lt (n x y:Nat) (hn:n≤64) (hx:x<B64):shr2 n x y<B64:=by
 have:=high_lt (64 - n) y (x / 2 ^ n) (by omega) (by have:=down_lt n x hn hx;exact this)
 rw [show 64 - (64 - n)=n by omega] at this
 unfold shr2;omega
theorem shl2_bits (n x y:Nat) (hn:n≤64) (hy:y<B64):bits .or .u64 (IntKind.u64.wrap ((x:Int)*2 ^ n)) ((y:Int) / 2 ^ (64 - n))=((shl2 n x y:Nat):Int):=by
 have h0:=up_lt n y hn hy
 have h1:=high_lt n x 0 hn (Nat.two_pow_pos _)
 rw [wrap_shl n x hn,shr_nat,bits_or_nat _ _ (by omega) (Nat.lt_of_le_of_lt (Nat.div_le_self _ _) hy),or_add _ _ _ h0]
 rfl
theorem shr2_bits (n x y:Nat) (hn:n≤64) (hx:x<B64):bits .or .u64 ((x:Int) / 2 ^ n) (IntKind.u64.wrap ((y:Int)*2 ^ (64 - n)))=((shr2 n x y:Nat):Int):=by
 have h0:=down_lt n x hn hx
 have h1:=high_lt (64 - n) y 0 (by omega) (Nat.two_pow_pos _)
 rw [show 64 - (64 - n)=n by omega] at h1
 rw [wrap_shl (64 - n) y (by omega),shr_nat,show 64 - (64 - n)=n by omega,bits_or_nat _ _ (Nat.lt_of_le_of_lt (Nat.div_le_self _ _) hx) (by omega),Nat.or_comm,or_add _ _ _ h0,Nat.add_comm]
 rfl
def raised (n:Nat):Nat→List Nat→List Nat
 | _,[]=>[]
 | c,x :: xs=>(x % 2 ^ (64 - n)*2 ^ n+c) :: raised n (x / 2 ^ (64 - n)) xs
theorem length_raised (n c:Nat) (xs:List Nat):(raised n c xs).length=xs.length:=by
 induction xs generalizing c with
 | nil=>rfl
 | cons x xs ih=>simp [raised,ih]
theorem raised_zero (n c:Nat) (xs:List Nat) (h:xs≠[]):(raised n c xs)[0]?.getD 0=xs[0]?.getD 0 % 2 ^ (64 - n)*2 ^ n+c:=by
 cases xs with
 | nil=>exact absurd rfl h
 | cons x xs=>rfl
theorem raised_succ (n c:Nat) (xs:List Nat) (j:Nat) (h:j+1<xs.length):(raised n c xs)[j+1]?.getD 0=shl2 n (xs[j+1]?.getD 0) (xs[j]?.getD 0):=by
 induction xs generalizing c j with
 | nil=>simp at h
 | cons x xs ih =>
  cases j with
  | zero =>
   have hne:xs≠[]:=by intro e;subst e;simp at h
   have:=raised_zero n (x / 2 ^ (64 - n)) xs hne
   simp only [raised,Nat.zero_add,List.getElem?_cons_succ,List.getElem?_cons_zero,Option.getD_some]
   rw [this];rfl
  | succ j =>
   have:=ih (x / 2 ^ (64 - n)) j (by simpa using h)
   simpa [raised] using this
theorem raised_dig (n c:Nat) (xs:List Nat) (hn:n≤64) (hx:Dig xs) (hc:c<2 ^ n):Dig (raised n c xs):=by
 induction xs generalizing c with
 | nil=>exact Dig.nil
 | cons x xs ih =>
  intro d hd
  rcases List.mem_cons.1 hd with h | h
  ·rw [h];exact high_lt n x c hn hc
  ·exact ih _ (fun d hd=>hx d (by simp [hd])) (up_lt n x hn (hx x (by simp))) d h
theorem raised_val (n c:Nat) (xs:List Nat) (hn:n≤64) (hx:Dig xs) (hc:c<2 ^ n):∃ r,val (raised n c xs)+B64 ^ xs.length*r=val xs*2 ^ n+c:=by
 induction xs generalizing c with
 | nil=>exact ⟨c,by simp [raised,val]⟩
 | cons x xs ih =>
  obtain ⟨r,hr⟩:=ih (x / 2 ^ (64 - n)) (fun d hd=>hx d (by simp [hd])) (up_lt n x hn (hx x (by simp)))
  refine ⟨r,?_⟩
  have e:x=x % 2 ^ (64 - n)+2 ^ (64 - n)*(x / 2 ^ (64 - n)):=(Nat.mod_add_div _ _).symm
  have e2:B64=2 ^ n*2 ^ (64 - n):=(two_split n hn).symm
  simp only [raised,val_cons,List.length_cons,Nat.pow_succ]
  generalize x % 2 ^ (64 - n)=a at *
  generalize x / 2 ^ (64 - n)=q at *
  generalize val (raised n q xs)=R at *
  generalize val xs=V at *
  generalize B64 ^ xs.length=P at *
  generalize 2 ^ (64 - n)=S at *
  generalize 2 ^ n=T at *
  subst e
  have:B64*(R+P*r)=B64*(V*T+q):=by rw [hr]
  grind
def lowered (n:Nat):List Nat→List Nat
 | []=>[]
 | x :: xs=>shr2 n x (xs[0]?.getD 0) :: lowered n xs
theorem length_lowered (n:Nat) (xs:List Nat):(lowered n xs).length=xs.length:=by
 induction xs with
 | nil=>rfl
 | cons x xs ih=>simp [lowered,ih]
theorem lowered_get (n:Nat) (xs:List Nat) (j:Nat) (h:j<xs.length):(lowered n xs)[j]?.getD 0=shr2 n (xs[j]?.getD 0) (xs[j+1]?.getD 0):=by
 induction xs generalizing j with
 | nil=>simp at h
 | cons x xs ih =>
  cases j with
  | zero=>simp [lowered]
  | succ j =>
   have:=ih j (by simpa using h)
   simpa [lowered] using this
theorem lowered_dig (n:Nat) (xs:List Nat) (hn:n≤64) (hx:Dig xs):Dig (lowered n xs):=by
 induction xs with
 | nil=>exact Dig.nil
 | cons x xs ih =>
  intro d hd
  rcases List.mem_cons.1 hd with h | h
  ·rw [h];exact shr2_lt n x _ hn (hx x (by simp))
  ·exact ih (fun d hd=>hx d (by simp [hd])) d h
theorem lowered_val (n:Nat) (xs:List Nat) (hn:n≤64):val (lowered n xs)=val xs / 2 ^ n:=by
 induction xs with
 | nil=>simp [lowered,val]
 | cons x xs ih =>
  have e2:B64=2 ^ n*2 ^ (64 - n):=(two_split n hn).symm
  have hm:(xs[0]?.getD 0) % 2 ^ n=val xs % 2 ^ n:=by
   cases xs with
   | nil=>simp [val]
   | cons h t =>
    rw [val_cons,e2,Nat.mul_assoc,Nat.add_mul_mod_self_left];rfl
  simp only [lowered,val_cons,ih]
  have e3:val xs=val xs % 2 ^ n+2 ^ n*(val xs / 2 ^ n):=(Nat.mod_add_div _ _).symm
  rw [shr2,hm]
  have e4:x+B64*val xs=x+2 ^ n*(2 ^ (64 - n)*val xs):=by rw [e2,Nat.mul_assoc]
  rw [e4,Nat.add_mul_div_left _ _ (Nat.two_pow_pos _),Nat.add_assoc]
  congr 1
  rw [e2]
  generalize val xs % 2 ^ n=m at *
  generalize val xs / 2 ^ n=d at *
  generalize 2 ^ (64 - n)=S at *
  generalize 2 ^ n=T at *
  rw [e3]
  grind
end
section
open Go.RowKit Go.Sort
def shl1 (n x:Nat):Nat:=x % 2 ^ (64 - n)*2 ^ n
theorem shl1_wrap (n x:Nat) (hn:n≤64):IntKind.u64.wrap ((x:Int)*2 ^ n)=((shl1 n x:Nat):Int):=wrap_shl n x hn
theorem mix_get (xs ys:List Nat) (k j:Nat) (_hl:ys.length=xs.length) (hk:k≤xs.length):(xs.take k ++ ys.drop k)[j]?.getD 0=if j<k then xs[j]?.getD 0 else ys[j]?.getD 0:=by
 by_cases h:j<k
 ·rw [if_pos h,List.getElem?_append_left (by simp;omega),List.getElem?_take_of_lt h]
 ·rw [if_neg h,List.getElem?_append_right (by simp;omega),List.getElem?_drop]
  simp only [List.length_take,Nat.min_eq_left hk]
  rw [show k+(j - k)=j by omega]
theorem mix_length (xs ys:List Nat) (k:Nat) (hl:ys.length=xs.length):(xs.take k ++ ys.drop k).length=xs.length:=by simp;omega
theorem eq_of_getD {xs ys:List Nat} (hl:xs.length=ys.length) (h:∀ j,j<xs.length→xs[j]?.getD 0=ys[j]?.getD 0):xs=ys:=by
 apply List.ext_getElem hl
 intro j h1 h2
 have:=h j h1
 rwa [List.getElem?_eq_getElem h1,List.getElem?_eq_getElem h2] at this
theorem set_getD (xs:List Nat) (k s j:Nat) (hk:k<xs.length):(xs.set k s)[j]?.getD 0=if j=k then s else xs[j]?.getD 0:=by
 by_cases h:j=k
 ·subst h;rw [if_pos rfl,List.getElem?_set_self hk];rfl
 ·rw [if_neg h,List.getElem?_set_ne (by omega)]
theorem mix_down (xs ys:List Nat) (k:Nat) (hl:ys.length=xs.length) (hk:k<xs.length):(xs.take (k+1) ++ ys.drop (k+1)).set k (ys[k]?.getD 0)=xs.take k ++ ys.drop k:=by
 apply eq_of_getD
 ·rw [List.length_set,mix_length _ _ _ hl,mix_length _ _ _ hl]
 ·intro j _
  rw [set_getD _ _ _ _ (by rw [mix_length _ _ _ hl];exact hk),mix_get _ _ _ _ hl (by omega),mix_get _ _ _ _ hl (by omega)]
  by_cases h:j=k
  ·subst h;rw [if_pos rfl,if_neg (by omega)]
  ·rw [if_neg h]
   by_cases h2:j<k
   ·rw [if_pos (by omega),if_pos h2]
   ·rw [if_neg (by omega),if_neg h2]
theorem mix_up (xs ys:List Nat) (k:Nat) (hl:ys.length=xs.length) (hk:k<xs.length):(ys.take k ++ xs.drop k).set k (ys[k]?.getD 0)=ys.take (k+1) ++ xs.drop (k+1):=by
 apply eq_of_getD
 ·rw [List.length_set,mix_length _ _ _ hl.symm,mix_length _ _ _ hl.symm]
 ·intro j _
  rw [set_getD _ _ _ _ (by rw [mix_length _ _ _ hl.symm];omega),mix_get _ _ _ _ hl.symm (by omega),mix_get _ _ _ _ hl.symm (by omega)]
  by_cases h:j=k
  ·subst h;rw [if_pos rfl,if_pos (by omega)]
  ·rw [if_neg h]
   by_cases h2:j<k
   ·rw [if_pos h2,if_pos (by omega)]
   ·rw [if_neg h2,if_neg (by omega)]
theorem raise_calls (nx n b o cp:Nat) (xs:List Nat) (w:World) (hn:n≤63) (hH:HoldsL w b o xs) (hx:Dig xs) (hpos:0<xs.length) (hsz:xs.length≤1099511627776) (hnx:xs.length=nx) :
  Calls Tryz.prog 217 #[.slice (some ⟨b,o,none⟩) nx cp,.int .u64 (n:Int)] w (RetRow0 w b o xs.length fun ds=>ds=raised n 0 xs):=by
 subst hnx
 have hlr:=length_raised n 0 xs
 have HX:=hid hx
 have HLR:=hid hlr
 have HH:=hid hH
 have ho:=fun (x y:Nat) (hy:y<B64)=>shl2_bits n x y (by omega) hy
 have ho1:=fun (x:Nat)=>shl1_wrap n x (by omega)
 clear hx hlr hH
 go_enter Tryz.func217,Tryz.ntmps217
 go_wp2
 go_loopw [4] (fun iv wr=>∃ (k q:Nat),iv=.int .i64 k∧k<xs.length∧wr=putL w q b o (xs.take (k+1) ++ (raised n 0 xs).drop (k+1))) (fun iv _=>(intOf iv).toNat)
 case atStart=>exact ⟨xs.length - 1,0,by go_num,by omega,by rw [show xs.length - 1+1=xs.length by omega,List.take_of_length_le (Nat.le_refl _),List.drop_of_length_le (by rw [HLR.out];exact Nat.le_refl _),List.append_nil];exact (putL_self _ _ _ _ HH.out).symm⟩
 case round =>
  obtain ⟨k,q,rfl,hk,hwr⟩:=hrel
  have hHk:HoldsL wr b o (xs.take (k+1) ++ (raised n 0 xs).drop (k+1)):=by rw [hwr];exact holdsL_putL _ _ _ _ _ _ HH.out (mix_length _ _ _ HLR.out)
  by_cases h0:0<k
  ·obtain ⟨m,rfl⟩:∃ m,k=m+1:=⟨k - 1,by omega⟩
   obtain ⟨x,hxk⟩:∃ x,xs[m+1]?.getD 0=x:=⟨_,rfl⟩
   obtain ⟨y,hyk⟩:∃ y,xs[m]?.getD 0=y:=⟨_,rfl⟩
   have cx:wr.cell? ⟨b,o+(m+1),none⟩=some (.int .u64 (x:Int)):=by rw [(hHk (m+1) (by rw [mix_length _ _ _ HLR.out];omega)).1,mix_get _ _ _ _ HLR.out (by omega),if_pos (by omega),hxk]
   have cy:wr.cell? ⟨b,o+m,none⟩=some (.int .u64 (y:Int)):=by rw [(hHk m (by rw [mix_length _ _ _ HLR.out];omega)).1,mix_get _ _ _ _ HLR.out (by omega),if_pos (by omega),hyk]
   have fx:wr.frozen? ⟨b,o+(m+1),none⟩=false:=(hHk (m+1) (by rw [mix_length _ _ _ HLR.out];omega)).2
   have hy1:y<B64:=by rw [← hyk];exact HX.out.getD m
   have HS:Hid (shl2 n x y=(raised n 0 xs)[m+1]?.getD 0):=by rw [← hxk,← hyk];exact (raised_succ n 0 xs m (by omega)).symm
   have HW:=hid hwr
   have e1:=ho x y hy1
   clear hwr hxk hyk hHk ho ho1 hy1
   go_wp2
   go_region
   all_goals go_wp2
   go_roundw
   case rel =>
    refine ⟨m,q+1,rfl,by omega,?_⟩
    rw [HW.out,putL_set _ _ _ _ _ _ _ (by rw [mix_length _ _ _ HLR.out];omega),putL_drew,HS.out,mix_down _ _ _ HLR.out (by omega)]
   case measure=>simp [intOf]
  ·obtain rfl:k=0:=by omega
   obtain ⟨x,hxk⟩:∃ x,xs[0]?.getD 0=x:=⟨_,rfl⟩
   have cx:wr.cell? ⟨b,o,none⟩=some (.int .u64 (x:Int)):=by
    have:=(hHk 0 (by rw [mix_length _ _ _ HLR.out];omega)).1
    rw [Nat.add_zero,mix_get _ _ _ _ HLR.out (by omega),if_pos (by omega),hxk] at this
    exact this
   have fx:wr.frozen? ⟨b,o,none⟩=false:=by
    have:=(hHk 0 (by rw [mix_length _ _ _ HLR.out];omega)).2
    rwa [Nat.add_zero] at this
   have HS:Hid (shl1 n x=(raised n 0 xs)[0]?.getD 0):=by
    have:=raised_zero n 0 xs (by intro e;subst e;simp at hpos)
    rw [hxk,Nat.add_zero] at this
    exact this.symm
   have HW:=hid hwr
   have e1:=ho1 x
   clear hwr hxk hHk ho ho1
   go_wp2
   go_end0
   refine ⟨raised n 0 xs,q,rfl,?_,HLR.out,raised_dig n 0 xs (by omega) HX.out (Nat.two_pow_pos _),rfl⟩
   have hset:=putL_set w q b o (xs.take (0+1) ++ (raised n 0 xs).drop (0+1)) 0 (shl1 n x) (by rw [mix_length _ _ _ HLR.out];omega)
   rw [show o+0=o from Nat.add_zero o] at hset
   rw [HW.out,hset,HS.out,mix_down _ _ _ HLR.out (by omega)]
   simp
theorem lower_calls (nx n b o cp:Nat) (xs:List Nat) (w:World) (hn:n≤63) (hH:HoldsL w b o xs) (hx:Dig xs) (hsz:xs.length≤1099511627776) (hnx:xs.length=nx) :
  Calls Tryz.prog 220 #[.slice (some ⟨b,o,none⟩) nx cp,.int .u64 (n:Int)] w (RetRow0 w b o xs.length fun ds=>val ds=val xs / 2 ^ n):=by
 subst hnx
 have hlr:=length_lowered n xs
 have HX:=hid hx
 have HLR:=hid hlr
 have HH:=hid hH
 have ho:=fun (x y:Nat) (hy:x<B64)=>shr2_bits n x y (by omega) hy
 clear hx hlr hH
 go_enter Tryz.func220,Tryz.ntmps220
 go_wp2
 go_loopw [7] (fun iv wr=>∃ (k q:Nat),iv=.int .i64 k∧k≤xs.length∧wr=putL w q b o ((lowered n xs).take k ++ xs.drop k)) (fun iv _=>xs.length - (intOf iv).toNat)
 case atStart=>exact ⟨0,0,rfl,by omega,by simpa using (putL_self _ _ _ _ HH.out).symm⟩
 case round =>
  obtain ⟨k,q,rfl,hk,hwr⟩:=hrel
  have hml:((lowered n xs).take k ++ xs.drop k).length=xs.length:=(mix_length _ _ _ HLR.out.symm).trans HLR.out
  have hHk:HoldsL wr b o ((lowered n xs).take k ++ xs.drop k):=by rw [hwr];exact holdsL_putL _ _ _ _ _ _ HH.out hml
  by_cases h0:k<xs.length
  ·obtain ⟨x,hxk⟩:∃ x,xs[k]?.getD 0=x:=⟨_,rfl⟩
   obtain ⟨y,hyk⟩:∃ y,xs[k+1]?.getD 0=y:=⟨_,rfl⟩
   have cx:wr.cell? ⟨b,o+k,none⟩=some (.int .u64 (x:Int)):=by rw [(hHk k (by omega)).1,mix_get _ _ _ _ HLR.out.symm (by rw [HLR.out];omega),if_neg (by omega),hxk]
   have fx:wr.frozen? ⟨b,o+k,none⟩=false:=(hHk k (by omega)).2
   have hx1:x<B64:=by rw [← hxk];exact HX.out.getD k
   have HY:Hid (((lowered n xs).take k ++ xs.drop k)[k+1]?.getD 0=y):=by rw [mix_get _ _ _ _ HLR.out.symm (by rw [HLR.out];omega),if_neg (by omega)] ;exact hyk
   have HS:Hid (shr2 n x y=(lowered n xs)[k]?.getD 0):=by rw [← hxk,← hyk];exact (lowered_get n xs k (by omega)).symm
   have HW:=hid hwr
   have HML:=hid hml
   have e1:=ho x y hx1
   have HHk:=hid hHk
   have hat:=at_callsN xs.length b o cp (k+1) ((lowered n xs).take k ++ xs.drop k) wr.drew HHk.out.digs HML.out
   rw [HY.out,show ((k+1:Nat):Int)=(k:Int)+1 from by omega] at hat
   have HAT:=hid hat
   clear hwr hxk hyk hHk ho hx1 hml hat
   have ew4:(0:Int)≤64 - (n:Int):=by omega
   have ew3:(64 - (n:Int)).toNat=64 - n:=by omega
   have ew1:IntKind.i64.wrap ((k:Int)+1)=(k:Int)+1:=IntWalk.i64_in _ (by omega)
   have ew2:IntKind.u64.wrap (64 - (n:Int))=64 - (n:Int):=IntWalk.u64_in _ (by omega)
   go_wp2
   go_region_with (first | (go_at_call 279;refine HAT.out.mono ?_;rintro e w' ⟨rfl,rfl⟩))
   all_goals clear ew1 ew2 ew3 ew4
   all_goals go_wp2
   all_goals
    go_roundw
    case rel =>
     refine ⟨k+1,q+1,by go_num,by omega,?_⟩
     rw [← mix_up _ _ _ HLR.out h0,← HS.out,← putL_set _ _ _ _ _ _ _ (by rw [HML.out];exact h0),← putL_drew,← HW.out]
     rfl
    case measure=>simp [intOf];omega
  ·have hkl:k=xs.length:=by omega
   have HW:Hid (wr=putL w q b o (lowered n xs)):=by
    rw [hkl,List.take_of_length_le (by rw [HLR.out];exact Nat.le_refl _),List.drop_of_length_le (Nat.le_refl _),List.append_nil] at hwr
    exact hwr
   clear hkl hwr hml hHk ho
   go_wp2
   go_end0
   exact ⟨lowered n xs,q,rfl,HW.out,HLR.out,lowered_dig n xs (by omega) HX.out,lowered_val n xs (by omega)⟩
end
section
def H32:Nat:=4294967296
theorem H32_sq:H32*H32=B64:=by decide
structure Half (u1 u0 v1 v0 q r:Nat):Prop where
 rest:q*v1+r=u1
 rlt:r<H32
 big:u1*H32+u0<(q+1)*(v1*H32+v0)
 le:q≤H32+1
theorem Half.start {u1 u0 v1 v0:Nat} (hv1:v1<H32) (hv:H32≤2*v1) (hv0:v0<H32) (hu0:u0<H32) (hu:u1<v1*H32+v0):Half u1 u0 v1 v0 (u1 / v1) (u1 % v1):=by
 have hp:0<v1:=by unfold H32 at *;omega
 have e:u1 / v1*v1+u1 % v1=u1:=by rw [Nat.mul_comm];exact Nat.div_add_mod u1 v1
 have hm:u1 % v1<v1:=Nat.mod_lt _ hp
 refine ⟨e,by omega,?_,?_⟩
 ·have h1:u1+1≤(u1 / v1+1)*v1:=by rw [Nat.add_mul];omega
  have h2:(u1+1)*H32≤(u1 / v1+1)*v1*H32:=Nat.mul_le_mul_right _ h1
  have h3:(u1 / v1+1)*(v1*H32+v0)=(u1 / v1+1)*v1*H32+(u1 / v1+1)*v0:=by rw [Nat.mul_add,Nat.mul_assoc]
  rw [Nat.add_mul] at h2
  omega
 ·have h1:u1<(H32+2)*v1:=by rw [Nat.add_mul,Nat.mul_comm H32 v1];omega
  have:=Nat.div_lt_of_lt_mul (by rw [Nat.mul_comm];exact h1:u1<v1*(H32+2))
  omega
theorem Half.step {u1 u0 v1 v0 q r:Nat} (h:Half u1 u0 v1 v0 q r) (hu0:u0<H32) (hu:u1<v1*H32+v0) (ht:H32≤q∨H32*r+u0<q*v0) :
  1≤q∧(q - 1)*v1+(r+v1)=u1∧u1*H32+u0<(q - 1+1)*(v1*H32+v0):=by
 have hlt:u1*H32+u0<q*(v1*H32+v0):=by
  rcases ht with h1 | h1
  ·have h2:(u1+1)*H32≤(v1*H32+v0)*H32:=Nat.mul_le_mul_right _ hu
   have h3:H32*(v1*H32+v0)≤q*(v1*H32+v0):=Nat.mul_le_mul_right _ h1
   rw [Nat.add_mul] at h2
   rw [Nat.mul_comm] at h3
   omega
  ·have h2:(q*v1+r)*H32=u1*H32:=by rw [h.rest]
   have h3:q*(v1*H32+v0)=q*v1*H32+q*v0:=by rw [Nat.mul_add,Nat.mul_assoc]
   rw [Nat.add_mul,Nat.mul_comm r] at h2
   omega
 have hq:1≤q:=by
  rcases Nat.eq_zero_or_pos q with h0 | h0
  ·subst h0;omega
  ·exact h0
 obtain ⟨p,rfl⟩:∃ p,q=p+1:=⟨q - 1,by omega⟩
 refine ⟨hq,?_,?_⟩
 ·have:=h.rest;rw [Nat.add_mul] at this;rw [Nat.add_sub_cancel];omega
 ·rw [Nat.add_sub_cancel];exact hlt
theorem half_done {u1 u0 v1 v0 q r:Nat} (e:q*v1+r=u1) (hb:u1*H32+u0<(q+1)*(v1*H32+v0)) (hle:q*v0≤H32*r+u0) (hu0:u0<H32) (hu:u1<v1*H32+v0) :
  q=(u1*H32+u0) / (v1*H32+v0)∧q<H32∧q*(v1*H32+v0)+(u1*H32+u0) % (v1*H32+v0)=u1*H32+u0:=by
 have h1:q*(v1*H32+v0)≤u1*H32+u0:=by
  have h2:(q*v1+r)*H32=u1*H32:=by rw [e]
  have h3:q*(v1*H32+v0)=q*v1*H32+q*v0:=by rw [Nat.mul_add,Nat.mul_assoc]
  rw [Nat.add_mul,Nat.mul_comm r] at h2
  omega
 have hq:q=(u1*H32+u0) / (v1*H32+v0):=by
  symm
  rw [Nat.div_eq_iff (by omega)]
  constructor
  ·rw [Nat.mul_comm] at h1 ⊢;exact h1
  ·rw [Nat.add_mul] at hb;omega
 refine ⟨hq,?_,?_⟩
 ·rw [hq,Nat.div_lt_iff_lt_mul (by omega)]
  have:(u1+1)*H32≤(v1*H32+v0)*H32:=Nat.mul_le_mul_right _ hu
  rw [Nat.add_mul] at this
  rw [Nat.mul_comm H32]
  omega
 ·conv=>lhs;rw [hq]
  rw [Nat.mul_comm];exact Nat.div_add_mod _ _
theorem half_break {q v0 r u0:Nat} (hq:q≤H32) (hr:H32≤r) (h:v0<H32):q*v0≤H32*r+u0:=by
 have h1:q*v0≤H32*H32:=Nat.mul_le_mul hq (Nat.le_of_lt h)
 have h2:H32*H32≤H32*r:=Nat.mul_le_mul_left _ hr
 omega
def divQ (hi lo y:Nat):Nat:=(hi*B64+lo) / y
def divR (hi lo y:Nat):Nat:=(hi*B64+lo) % y
theorem divR_lt (hi lo y:Nat) (h:0<y):divR hi lo y<y:=Nat.mod_lt _ h
theorem div_spec (hi lo y:Nat):divQ hi lo y*y+divR hi lo y=hi*B64+lo:=by rw [Nat.mul_comm];exact Nat.div_add_mod _ _
theorem divQ_lt (hi lo y:Nat) (hl:lo<B64) (h:hi<y):divQ hi lo y<B64:=by
 unfold divQ
 rw [Nat.div_lt_iff_lt_mul (by omega)]
 have:(hi+1)*B64≤y*B64:=Nat.mul_le_mul_right _ h
 rw [Nat.add_mul] at this
 rw [Nat.mul_comm B64];omega
theorem halves {hi lo y s q1 q0 un32 un1 un0 un21 r:Nat} (hy:0<y)
  (e:(hi*B64+lo)*2 ^ s=un32*B64+(un1*H32+un0)) (h1:q1*(y*2 ^ s)+un21=un32*H32+un1) (h0:q0*(y*2 ^ s)+r=un21*H32+un0) (hr:r<y*2 ^ s) :
  q1*H32+q0=divQ hi lo y∧r / 2 ^ s=divR hi lo y:=by
 have hT:0<2 ^ s:=Nat.two_pow_pos s
 have e2:(hi*B64+lo)*2 ^ s=(q1*H32+q0)*(y*2 ^ s)+r:=by
  have hB:=H32_sq
  rw [e]
  generalize y*2 ^ s=v at *
  have t1:H32*(q1*v+un21)=H32*(un32*H32+un1):=by rw [h1]
  generalize H32=h at *
  clear e hT
  generalize B64=B at *
  subst hB
  grind
 unfold divQ divR
 clear e h1 h0
 generalize hi*B64+lo=N at *
 generalize q1*H32+q0=Q at *
 generalize 2 ^ s=T at *
 have hd:N / y=Q:=by
  rw [← Nat.mul_div_mul_right N y hT,e2,Nat.mul_comm Q,Nat.mul_add_div (Nat.mul_pos hy hT),Nat.div_eq_of_lt hr,Nat.add_zero]
 have hm:(N % y)*T=r:=by
  rw [← Nat.mul_mod_mul_right,e2,Nat.mul_comm Q,Nat.mul_add_mod,Nat.mod_eq_of_lt hr]
 refine ⟨hd.symm,?_⟩
 rw [← hm,Nat.mul_div_cancel _ hT]
theorem bitLen_norm (y:Nat) (hy:0<y) (h:y<B64):∃ s,s≤63∧Lib.bitLen y+s=64∧B64≤2*(y*2 ^ s)∧y*2 ^ s<B64:=by
 obtain ⟨h1,h2,h3⟩:=Lib.bitLenAux_bounds 64 y (by unfold B64 at h;omega) (by omega)
 have h4:=Lib.bitLen_le y 64 (by omega) (by unfold B64 at h;omega)
 unfold Lib.bitLen at h4
 refine ⟨64 - Lib.bitLenAux 64 y,by omega,by unfold Lib.bitLen;omega,?_,?_⟩
 ·generalize Lib.bitLenAux 64 y=L at *
  have:2 ^ (L - 1)*2 ^ (64 - L)≤y*2 ^ (64 - L):=Nat.mul_le_mul_right _ h2
  rw [← Nat.pow_add,show L - 1+(64 - L)=63 by omega] at this
  unfold B64
  omega
 ·generalize Lib.bitLenAux 64 y=L at *
  have:y*2 ^ (64 - L)<2 ^ L*2 ^ (64 - L):=Nat.mul_lt_mul_of_pos_right h3 (Nat.two_pow_pos _)
  rw [← Nat.pow_add,show L+(64 - L)=64 by omega] at this
  exact this
theorem shifted_hi (hi lo y s:Nat) (hs:s≤63) (hl:lo<B64) (hlt:hi<y) (hy:y*2 ^ s<B64) :
  shl2 s hi lo=hi*2 ^ s+lo / 2 ^ (64 - s)∧(hi*B64+lo)*2 ^ s=shl2 s hi lo*B64+lo % 2 ^ (64 - s)*2 ^ s∧shl2 s hi lo<y*2 ^ s:=by
 have hT:0<2 ^ s:=Nat.two_pow_pos s
 have e:=two_split s (by omega)
 have hup:=up_lt s lo (by omega) hl
 have h1:(hi+1)*2 ^ s≤y*2 ^ s:=Nat.mul_le_mul_right _ hlt
 rw [Nat.add_mul] at h1
 have h2:hi<2 ^ (64 - s):=by
  have:hi*2 ^ s<2 ^ (64 - s)*2 ^ s:=by rw [Nat.mul_comm (2 ^ (64 - s)),e];omega
  exact Nat.lt_of_mul_lt_mul_right this
 have e0:shl2 s hi lo=hi*2 ^ s+lo / 2 ^ (64 - s):=by unfold shl2;rw [Nat.mod_eq_of_lt h2]
 refine ⟨e0,?_,by rw [e0];omega⟩
 rw [e0]
 have e3:lo % 2 ^ (64 - s)+2 ^ (64 - s)*(lo / 2 ^ (64 - s))=lo:=Nat.mod_add_div _ _
 generalize lo % 2 ^ (64 - s)=a at *
 generalize lo / 2 ^ (64 - s)=d at *
 generalize 2 ^ (64 - s)=S at *
 generalize 2 ^ s=T at *
 rw [← e3,← e]
 grind
end
end Go.Proofs.YtmijlcldmefggaaGreatDoor
namespace Go.Proofs
open Go.Shelf
def Tryz.lays169_ren:Go.Shelf.Ren:=⟨fun | 169=>199 | n=>n,fun | 70=>286 | 9=>9 | 0=>0 | 72=>288 | 37=>84 | 127=>341 | 3=>3 | 5=>5 | n=>n,fun | n=>n⟩
theorem Tryz.lays169:Go.Proofs.Lays.n169 Tryz.prog Tryz.lays169_ren:={
  mixed:=by kernel_rfl
  f169:=Tryz.func199.trans (congrArg some (by kernel_rfl))
  t0:=Tryz.underlying0
  a0:=Tryz.isAgg0
  z0:=Tryz.sizeOf0
  v0:=Tryz.zeroValue0
  t3:=Tryz.underlying3
  a3:=Tryz.isAgg3
  z3:=Tryz.sizeOf3
  v3:=Tryz.zeroValue3
  t9:=Tryz.underlying9
  a9:=Tryz.isAgg9
  z9:=Tryz.sizeOf9
  v9:=Tryz.zeroValue9
  t37:=Tryz.underlying84
  a37:=Tryz.isAgg84
  z37:=Tryz.sizeOf84
  v37:=Tryz.zeroValue84
  t70:=Tryz.underlying286
  a70:=Tryz.isAgg286
  z70:=Tryz.sizeOf286
  v70:=Tryz.zeroValue286
  t72:=Tryz.underlying288
  a72:=Tryz.isAgg288
  z72:=Tryz.sizeOf288
  v72:=Tryz.zeroValue288
  t127:=Tryz.underlying341
  a127:=Tryz.isAgg341
  z127:=Tryz.sizeOf341
  v127:=Tryz.zeroValue341 }
theorem Tryz.Builder_Extra_169:Builder.Extra Tryz.prog Tryz.lays169_ren:={
  sizeBuilder:=by kernel_rfl
  liesBuilder:=by kernel_rfl
  t5:=Tryz.underlying5
  a5:=Tryz.isAgg5
  z5:=Tryz.sizeOf5
  v5:=Tryz.zeroValue5
  infoByte:=by kernel_rfl
  cellsByte:=by kernel_rfl
  sizeByte:=by kernel_rfl
  neB5:=by decide }
open Go.RowKit in
/-- (*strings.Builder).String: "String returns the accumulated string.": WHATEVER THE BUILDER HOLDS. (LAID: no walk: one application.) -/
theorem Tryz.Builder_String_any (B b:Nat) (l:List UInt8) (w:World) (h:Lib.IsBuilder 288 5 B b (Lib.byteCells l) w) (hBw:B≤w.heap.size) :
    Calls Tryz.prog 199 #[.pointer (some ⟨b,0,none⟩)] w fun e w'=>e=.returned (.string ⟨l.toArray⟩)∧Below B w w':=Any.Builder_String_any Tryz.lays169 Tryz.Builder_Extra_169 B b l w h hBw
def Tryz.lays134_ren:Go.Shelf.Ren:=⟨fun | 134=>213 | 129=>278 | n=>n,fun | 53=>24 | 3=>3 | 4=>4 | 46=>235 | 5=>5 | 9=>9 | n=>n,fun | n=>n⟩
theorem Tryz.lays134:Go.Proofs.Lays.n134 Tryz.prog Tryz.lays134_ren:={
  mixed:=by kernel_rfl
  f129:=Tryz.func278.trans (congrArg some (by kernel_rfl))
  f134:=Tryz.func213.trans (congrArg some (by kernel_rfl))
  t3:=Tryz.underlying3
  a3:=Tryz.isAgg3
  z3:=Tryz.sizeOf3
  v3:=Tryz.zeroValue3
  t4:=Tryz.underlying4
  a4:=Tryz.isAgg4
  z4:=Tryz.sizeOf4
  v4:=Tryz.zeroValue4
  t5:=Tryz.underlying5
  a5:=Tryz.isAgg5
  z5:=Tryz.sizeOf5
  v5:=Tryz.zeroValue5
  t9:=Tryz.underlying9
  a9:=Tryz.isAgg9
  z9:=Tryz.sizeOf9
  v9:=Tryz.zeroValue9
  t46:=Tryz.underlying235
  a46:=Tryz.isAgg235
  z46:=Tryz.sizeOf235
  v46:=Tryz.zeroValue235
  t53:=Tryz.underlying24
  a53:=Tryz.isAgg24
  z53:=Tryz.sizeOf24
  v53:=Tryz.zeroValue24 }
/-- bits.LeadingZeros64: "LeadingZeros64 returns the number of leading zero bits in x; the result is 64 for x == 0.": IT RETURNS '64 - Lib.bitLen x'; the world is ay it was. ITS CALLEE bits.Len64 IS MET BY ITS OWN CONTRACT OFF THE SHELF (lay that first): entered in place it sends the kernel out of memory. (LAID: no walk: one application.) -/
theorem Tryz.bits_LeadingZeros64 (x:Int) (w:World) (h0:0≤x) (h1:x≤18446744073709551615) :
    Calls Tryz.prog 213 #[.int .u64 x] w fun e w'=>e=.returned (.int .i64 (64 - (Lib.bitLen x.toNat:Int)))∧w' = w:=Any.bits_LeadingZeros64 Tryz.lays134 x w h0 h1
def Tryz.lays103_ren:Go.Shelf.Ren:=⟨fun | 103=>115 | 210=>166 | 206=>221 | n=>n,fun | 9=>9 | 4=>4 | 24=>181 | 3=>3 | n=>n,fun | n=>n⟩
theorem Tryz.lays103:Go.Proofs.Lays.n103 Tryz.prog Tryz.lays103_ren:={
  mixed:=by kernel_rfl
  f103:=Tryz.func115.trans (congrArg some (by kernel_rfl))
  f206:=Tryz.func221.trans (congrArg some (by kernel_rfl))
  f210:=Tryz.func166.trans (congrArg some (by kernel_rfl))
  t3:=Tryz.underlying3
  a3:=Tryz.isAgg3
  z3:=Tryz.sizeOf3
  v3:=Tryz.zeroValue3
  t4:=Tryz.underlying4
  a4:=Tryz.isAgg4
  z4:=Tryz.sizeOf4
  v4:=Tryz.zeroValue4
  t9:=Tryz.underlying9
  a9:=Tryz.isAgg9
  z9:=Tryz.sizeOf9
  v9:=Tryz.zeroValue9
  t24:=Tryz.underlying181
  a24:=Tryz.isAgg181
  z24:=Tryz.sizeOf181
  v24:=Tryz.zeroValue181 }
open Go.RowKit in
/-- strings.CutPrefix: "CutPrefix returns s without the provided leading prefix string and reports whether it found the prefix. If s doesn't start with prefix, CutPrefix returns s, false. If prefix is the empty string, CutPrefix returns s, true.": IT RETURNS '(Lib.trimPrefix s p, Lib.hasPrefix s p)'; the world is ay it was. (LAID: no walk: one application.) -/
theorem Tryz.strings_CutPrefix (s p:ByteArray) (w:World) :
    Calls Tryz.prog 115 #[.string s,.string p] w fun e w'=>e=.returned (.tuple #[.string ⟨(Lib.trimPrefix s.data.toList p.data.toList).toArray⟩,.bool (Lib.hasPrefix s.data.toList p.data.toList)])∧w' = w:=Any.strings_CutPrefix Tryz.lays103 s p w
def Tryz.lays129_ren:Go.Shelf.Ren:=⟨fun | 129=>278 | n=>n,fun | 53=>24 | 3=>3 | 4=>4 | 46=>235 | 5=>5 | 9=>9 | n=>n,fun | n=>n⟩
theorem Tryz.lays129:Go.Proofs.Lays.n129 Tryz.prog Tryz.lays129_ren:={
  mixed:=by kernel_rfl
  f129:=Tryz.func278.trans (congrArg some (by kernel_rfl))
  t3:=Tryz.underlying3
  a3:=Tryz.isAgg3
  z3:=Tryz.sizeOf3
  v3:=Tryz.zeroValue3
  t4:=Tryz.underlying4
  a4:=Tryz.isAgg4
  z4:=Tryz.sizeOf4
  v4:=Tryz.zeroValue4
  t5:=Tryz.underlying5
  a5:=Tryz.isAgg5
  z5:=Tryz.sizeOf5
  v5:=Tryz.zeroValue5
  t9:=Tryz.underlying9
  a9:=Tryz.isAgg9
  z9:=Tryz.sizeOf9
  v9:=Tryz.zeroValue9
  t46:=Tryz.underlying235
  a46:=Tryz.isAgg235
  z46:=Tryz.sizeOf235
  v46:=Tryz.zeroValue235
  t53:=Tryz.underlying24
  a53:=Tryz.isAgg24
  z53:=Tryz.sizeOf24
  v53:=Tryz.zeroValue24 }
/-- bits.Len64: "Len64 returns the minimum number of bits required to represent x; the result is 0 for x == 0.": IT RETURNS 'Lib.bitLen x'; the world is ay it was. ('h0', 'h1': x is a uint64.) (LAID: no walk: one application.) -/
theorem Tryz.bits_Len64 (x:Int) (w:World) (h0:0≤x) (h1:x≤18446744073709551615) :
    Calls Tryz.prog 278 #[.int .u64 x] w fun e w'=>e=.returned (.int .i64 (Lib.bitLen x.toNat))∧w' = w:=Any.bits_Len64 Tryz.lays129 x w h0 h1
def Tryz.lays283_ren:Go.Shelf.Ren:=⟨fun | 283=>266 | n=>n,fun | 3=>3 | 9=>9 | 4=>4 | n=>n,fun | n=>n⟩
theorem Tryz.lays283:Go.Proofs.Lays.n283 Tryz.prog Tryz.lays283_ren:={
  mixed:=by kernel_rfl
  f283:=Tryz.func266.trans (congrArg some (by kernel_rfl))
  t3:=Tryz.underlying3
  a3:=Tryz.isAgg3
  z3:=Tryz.sizeOf3
  v3:=Tryz.zeroValue3
  t4:=Tryz.underlying4
  a4:=Tryz.isAgg4
  z4:=Tryz.sizeOf4
  v4:=Tryz.zeroValue4
  t9:=Tryz.underlying9
  a9:=Tryz.isAgg9
  z9:=Tryz.sizeOf9
  v9:=Tryz.zeroValue9 }
open Go.Lib in
/-- internal/strconv.small: "small returns the string for an i with 0 <= i < nSmalls.": i's decimal numeral. The world is ay it was. (LAID: no walk: one application.) -/
theorem Tryz.internal_strconv_small (i:Nat) (h:i<100) (w:World) :
    Calls Tryz.prog 266 #[.int .i64 i] w fun e w'=>e=.returned (.string ⟨(Lib.decDigits i).toArray⟩)∧w' = w:=Any.internal_strconv_small Tryz.lays283 i h w
def Tryz.laysM284_ren:Go.Shelf.Ren:=⟨fun | 284=>267 | 129=>278 | 317=>315 | 318=>316 | n=>n,fun | 53=>24 | 3=>3 | 212=>394 | 0=>0 | 4=>4 | 46=>235 | 5=>5 | 9=>9 | n=>n,fun | 17=>4 | n=>n⟩
theorem Tryz.laysM284:Go.Proofs.LaysM.n284 Tryz.prog Tryz.laysM284_ren:={
  mixed:=by kernel_rfl
  f129:=Tryz.func278.trans (congrArg some (by kernel_rfl))
  f284:=Tryz.func267.trans (congrArg some (by kernel_rfl))
  f317:=Tryz.func315.trans (congrArg some (by kernel_rfl))
  f318:=Tryz.func316.trans (congrArg some (by kernel_rfl))
  t0:=Tryz.underlying0
  a0:=Tryz.isAgg0
  z0:=Tryz.sizeOf0
  v0:=Tryz.zeroValue0
  t3:=Tryz.underlying3
  a3:=Tryz.isAgg3
  z3:=Tryz.sizeOf3
  v3:=Tryz.zeroValue3
  t4:=Tryz.underlying4
  a4:=Tryz.isAgg4
  z4:=Tryz.sizeOf4
  v4:=Tryz.zeroValue4
  t5:=Tryz.underlying5
  a5:=Tryz.isAgg5
  z5:=Tryz.sizeOf5
  v5:=Tryz.zeroValue5
  t9:=Tryz.underlying9
  a9:=Tryz.isAgg9
  z9:=Tryz.sizeOf9
  v9:=Tryz.zeroValue9
  t46:=Tryz.underlying235
  a46:=Tryz.isAgg235
  z46:=Tryz.sizeOf235
  v46:=Tryz.zeroValue235
  t53:=Tryz.underlying24
  a53:=Tryz.isAgg24
  z53:=Tryz.sizeOf24
  v53:=Tryz.zeroValue24
  t212:=Tryz.underlying394
  a212:=Tryz.isAgg394
  z212:=Tryz.sizeOf394
  v212:=Tryz.zeroValue394
  g17:=by kernel_rfl
  i0:=by kernel_rfl
  i3:=by kernel_rfl
  i4:=by kernel_rfl
  i5:=by kernel_rfl
  i9:=by kernel_rfl
  i46:=by kernel_rfl
  i53:=by kernel_rfl
  i212:=by kernel_rfl
  m17:=by kernel_rfl }
open Go.Lib in
/-- internal/strconv.numDigits, at a d that is not 0: THE NUMBER OF d's DECIMAL DIGITS. The world is ay it was. (LAID: no walk: one application.) -/
theorem Tryz.internal_strconv_numDigits (u:Nat) (h1:1≤u) (h2:u<18446744073709551616) (w:World) (htab:Lib.TabIs Tryz.prog w "internal/strconv.uint64pow10" .u64 Lib.pow10Tab) :
    Calls Tryz.prog 267 #[.int .u64 u] w fun e w'=>e=.returned (.int .i64 (Lib.nDigits u))∧w' = w:=Any.internal_strconv_numDigits Tryz.laysM284 u h1 h2 w htab
def Tryz.lays285_ren:Go.Shelf.Ren:=⟨fun | 285=>268 | n=>n,fun | 37=>84 | 53=>24 | 3=>3 | 4=>4 | 51=>390 | 9=>9 | 5=>5 | 0=>0 | n=>n,fun | n=>n⟩
theorem Tryz.lays285:Go.Proofs.Lays.n285 Tryz.prog Tryz.lays285_ren:={
  mixed:=by kernel_rfl
  f285:=Tryz.func268.trans (congrArg some (by kernel_rfl))
  t0:=Tryz.underlying0
  a0:=Tryz.isAgg0
  z0:=Tryz.sizeOf0
  v0:=Tryz.zeroValue0
  t3:=Tryz.underlying3
  a3:=Tryz.isAgg3
  z3:=Tryz.sizeOf3
  v3:=Tryz.zeroValue3
  t4:=Tryz.underlying4
  a4:=Tryz.isAgg4
  z4:=Tryz.sizeOf4
  v4:=Tryz.zeroValue4
  t5:=Tryz.underlying5
  a5:=Tryz.isAgg5
  z5:=Tryz.sizeOf5
  v5:=Tryz.zeroValue5
  t9:=Tryz.underlying9
  a9:=Tryz.isAgg9
  z9:=Tryz.sizeOf9
  v9:=Tryz.zeroValue9
  t37:=Tryz.underlying84
  a37:=Tryz.isAgg84
  z37:=Tryz.sizeOf84
  v37:=Tryz.zeroValue84
  t51:=Tryz.underlying390
  a51:=Tryz.isAgg390
  z51:=Tryz.sizeOf390
  v51:=Tryz.zeroValue390
  t53:=Tryz.underlying24
  a53:=Tryz.isAgg24
  z53:=Tryz.sizeOf24
  v53:=Tryz.zeroValue24 }
open Go.RowKit Go.Sort Go.Lib in
/-- internal/strconv.formatBase10: "formatBase10 formats the decimal representation of u into a. The caller is responsible for ensuring that a is big enough to hold u. If a is too big, leading zeros will be filled in ay needed.": THE ROW HOLDS u's DIGITS ('FmtInv .. 0 ..': every place t holds 'dg u (len - 1 - t)'); all else is ay it was but for the count of draws. (LAID: no walk: one application.) -/
theorem Tryz.internal_strconv_formatBase10 (blk off cap:Nat) (u:Nat) (d:Array UInt8) (w:World) (hH:Holds (fun (b:UInt8)=>Value.int .u8 (b.toNat:Int)) w blk off d) (hu:u<10 ^ d.size) (hu64:u<18446744073709551616) (hsz:d.size<4611686018427387904) :
    Calls Tryz.prog 268 #[.slice (some ⟨blk,off,none⟩) d.size cap,.int .u64 u] w fun e w' =>
      e=.returned (.tuple #[])∧∃ (n v':Nat) (dk:Array UInt8),w' = (putRow (fun (b:UInt8)=>Value.int .u8 (b.toNat:Int)) w blk off dk).drewN n∧FmtInv d.size u 0 v' dk:=Any.internal_strconv_formatBase10 Tryz.lays285 blk off cap u d w hH hu hu64 hsz
def Tryz.lays145_ren:Go.Shelf.Ren:=⟨fun | 145=>116 | 220=>167 | 219=>222 | 217=>280 | 225=>281 | 224=>282 | 267=>283 | 266=>324 | 314=>325 | n=>n,fun | 9=>9 | 4=>4 | 59=>183 | 3=>3 | 5=>5 | 46=>235 | 146=>391 | 51=>390 | n=>n,fun | 1=>3 | n=>n⟩
theorem Tryz.lays145:Go.Proofs.Lays.n145 Tryz.prog Tryz.lays145_ren:={
  mixed:=by kernel_rfl
  f145:=Tryz.func116.trans (congrArg some (by kernel_rfl))
  f217:=Tryz.func280.trans (congrArg some (by kernel_rfl))
  f219:=Tryz.func222.trans (congrArg some (by kernel_rfl))
  f220:=Tryz.func167.trans (congrArg some (by kernel_rfl))
  f224:=Tryz.func282.trans (congrArg some (by kernel_rfl))
  f225:=Tryz.func281.trans (congrArg some (by kernel_rfl))
  f266:=Tryz.func324.trans (congrArg some (by kernel_rfl))
  f267:=Tryz.func283.trans (congrArg some (by kernel_rfl))
  f314:=Tryz.func325.trans (congrArg some (by kernel_rfl))
  t3:=Tryz.underlying3
  a3:=Tryz.isAgg3
  z3:=Tryz.sizeOf3
  v3:=Tryz.zeroValue3
  t4:=Tryz.underlying4
  a4:=Tryz.isAgg4
  z4:=Tryz.sizeOf4
  v4:=Tryz.zeroValue4
  t5:=Tryz.underlying5
  a5:=Tryz.isAgg5
  z5:=Tryz.sizeOf5
  v5:=Tryz.zeroValue5
  t9:=Tryz.underlying9
  a9:=Tryz.isAgg9
  z9:=Tryz.sizeOf9
  v9:=Tryz.zeroValue9
  t46:=Tryz.underlying235
  a46:=Tryz.isAgg235
  z46:=Tryz.sizeOf235
  v46:=Tryz.zeroValue235
  t51:=Tryz.underlying390
  a51:=Tryz.isAgg390
  z51:=Tryz.sizeOf390
  v51:=Tryz.zeroValue390
  t59:=Tryz.underlying183
  a59:=Tryz.isAgg183
  z59:=Tryz.sizeOf183
  v59:=Tryz.zeroValue183
  t146:=Tryz.underlying391
  a146:=Tryz.isAgg391
  z146:=Tryz.sizeOf391
  v146:=Tryz.zeroValue391
  g1:=by kernel_rfl }
open Go.RowKit Go.Lib in
/-- strings.Cut: "Cut slices s around the first instance of sep, returning the text before and after sep. The found result reports whether sep appears in s. If sep does not appear in s, cut returns s, "", false.": IT RETURNS 'Lib.cut s sep'; the world is ay it was but for the count of draws. (LAID: no walk: one application.) -/
theorem Tryz.strings_Cut (s sep:ByteArray) (m:Int) (w:World) (hs:s.size<4294967281) (hm:w.cell? ⟨3,0,none⟩=some (.int .i64 m)) :
    Calls Tryz.prog 116 #[.string s,.string sep] w fun e w'=>e=.returned (.tuple #[.string ⟨(Lib.cut s.data.toList sep.data.toList).1.toArray⟩,.string ⟨(Lib.cut s.data.toList sep.data.toList).2.1.toArray⟩,.bool (Lib.cut s.data.toList sep.data.toList).2.2])∧∃ n,w' = w.drewN n:=Any.strings_Cut Tryz.lays145 s sep m w hs hm
def Tryz.lays105_ren:Go.Shelf.Ren:=⟨fun | 105=>198 | 212=>262 | 99=>263 | 165=>264 | 166=>197 | 170=>265 | 169=>199 | 263=>313 | 264=>107 | 206=>221 | 240=>261 | 241=>314 | 276=>312 | 277=>367 | n=>n,fun | 9=>9 | 3=>3 | 4=>4 | 20=>20 | 0=>0 | 46=>235 | 109=>338 | 5=>5 | 72=>288 | 76=>291 | 51=>390 | 146=>391 | 53=>24 | 148=>176 | 70=>286 | 37=>84 | 75=>290 | 127=>341 | 164=>388 | 80=>95 | n=>n,fun | n=>n⟩
theorem Tryz.lays105:Go.Proofs.Lays.n105 Tryz.prog Tryz.lays105_ren:={
  mixed:=by kernel_rfl
  f99:=Tryz.func263.trans (congrArg some (by kernel_rfl))
  f105:=Tryz.func198.trans (congrArg some (by kernel_rfl))
  f165:=Tryz.func264.trans (congrArg some (by kernel_rfl))
  f166:=Tryz.func197.trans (congrArg some (by kernel_rfl))
  f169:=Tryz.func199.trans (congrArg some (by kernel_rfl))
  f170:=Tryz.func265.trans (congrArg some (by kernel_rfl))
  f206:=Tryz.func221.trans (congrArg some (by kernel_rfl))
  f212:=Tryz.func262.trans (congrArg some (by kernel_rfl))
  f240:=Tryz.func261.trans (congrArg some (by kernel_rfl))
  f241:=Tryz.func314.trans (congrArg some (by kernel_rfl))
  f263:=Tryz.func313.trans (congrArg some (by kernel_rfl))
  f264:=Tryz.func107.trans (congrArg some (by kernel_rfl))
  f276:=Tryz.func312.trans (congrArg some (by kernel_rfl))
  f277:=Tryz.func367.trans (congrArg some (by kernel_rfl))
  t0:=Tryz.underlying0
  a0:=Tryz.isAgg0
  z0:=Tryz.sizeOf0
  v0:=Tryz.zeroValue0
  t3:=Tryz.underlying3
  a3:=Tryz.isAgg3
  z3:=Tryz.sizeOf3
  v3:=Tryz.zeroValue3
  t4:=Tryz.underlying4
  a4:=Tryz.isAgg4
  z4:=Tryz.sizeOf4
  v4:=Tryz.zeroValue4
  t5:=Tryz.underlying5
  a5:=Tryz.isAgg5
  z5:=Tryz.sizeOf5
  v5:=Tryz.zeroValue5
  t9:=Tryz.underlying9
  a9:=Tryz.isAgg9
  z9:=Tryz.sizeOf9
  v9:=Tryz.zeroValue9
  t20:=Tryz.underlying20
  a20:=Tryz.isAgg20
  z20:=Tryz.sizeOf20
  v20:=Tryz.zeroValue20
  t37:=Tryz.underlying84
  a37:=Tryz.isAgg84
  z37:=Tryz.sizeOf84
  v37:=Tryz.zeroValue84
  t46:=Tryz.underlying235
  a46:=Tryz.isAgg235
  z46:=Tryz.sizeOf235
  v46:=Tryz.zeroValue235
  t51:=Tryz.underlying390
  a51:=Tryz.isAgg390
  z51:=Tryz.sizeOf390
  v51:=Tryz.zeroValue390
  t53:=Tryz.underlying24
  a53:=Tryz.isAgg24
  z53:=Tryz.sizeOf24
  v53:=Tryz.zeroValue24
  t70:=Tryz.underlying286
  a70:=Tryz.isAgg286
  z70:=Tryz.sizeOf286
  v70:=Tryz.zeroValue286
  t72:=Tryz.underlying288
  a72:=Tryz.isAgg288
  z72:=Tryz.sizeOf288
  v72:=Tryz.zeroValue288
  t75:=Tryz.underlying290
  a75:=Tryz.isAgg290
  z75:=Tryz.sizeOf290
  v75:=Tryz.zeroValue290
  t76:=Tryz.underlying291
  a76:=Tryz.isAgg291
  z76:=Tryz.sizeOf291
  v76:=Tryz.zeroValue291
  t109:=Tryz.underlying338
  a109:=Tryz.isAgg338
  z109:=Tryz.sizeOf338
  v109:=Tryz.zeroValue338
  t127:=Tryz.underlying341
  a127:=Tryz.isAgg341
  z127:=Tryz.sizeOf341
  v127:=Tryz.zeroValue341
  t146:=Tryz.underlying391
  a146:=Tryz.isAgg391
  z146:=Tryz.sizeOf391
  v146:=Tryz.zeroValue391
  t148:=Tryz.underlying176
  a148:=Tryz.isAgg176
  z148:=Tryz.sizeOf176
  v148:=Tryz.zeroValue176
  t164:=Tryz.underlying388
  a164:=Tryz.isAgg388
  z164:=Tryz.sizeOf388
  v164:=Tryz.zeroValue388 }
theorem Tryz.Builder_Extra_105:Builder.Extra Tryz.prog Tryz.lays105_ren:={
  sizeBuilder:=by kernel_rfl
  liesBuilder:=by kernel_rfl
  t5:=Tryz.underlying5
  a5:=Tryz.isAgg5
  z5:=Tryz.sizeOf5
  v5:=Tryz.zeroValue5
  infoByte:=by kernel_rfl
  cellsByte:=by kernel_rfl
  sizeByte:=by kernel_rfl
  neB5:=by decide }
open Go.RowKit Go.Lib in
/-- **strings.Repeat: count ≥ 0, the result within one allocation: count copies of s.** (LAID: no walk: one application.) -/
theorem Tryz.strings_Repeat (s:ByteArray) (c:Nat) (w:World) (hc:c≤9223372036854775807) (hlen:s.size*c≤140737488355328) :
    Calls Tryz.prog 198 #[.string s,.int .i64 c] w fun e w'=>e=.returned (.string ⟨(Lib.repeatL s.data.toList c).toArray⟩)∧Below w.heap.size w w':=Any.strings_Repeat Tryz.lays105 Tryz.Builder_Extra_105 s c w hc hlen
end Go.Proofs
namespace Go.Proofs.YtmijlcldmefggaaGreatDoor
set_option maxRecDepth 100000
set_option maxHeartbeats 80000000
end Go.Proofs.YtmijlcldmefggaaGreatDoor
