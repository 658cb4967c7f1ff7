/- What the proof rests on, part 2. -/
import Derived.Test.YtancpaiaoamjlaaGreatDoorZ01
import Derived.Lib.ItoaNum
import Derived.Shelf.Strings.Builder1
import Derived.Shelf.Strings.Builder2
import Derived.Shelf.Small.Bits
import Derived.Shelf.Small.Wraps
import Derived.Shelf.Strings.BuilderF
import Derived.Shelf.Strings.BuilderK
import Derived.Shelf.Strings.Builder2Cap
import Derived.Shelf.Strconv.Itoa0
import Derived.Shelf.Strconv.Itoa1
import Derived.Shelf.LaysM
import Derived.Shelf.Strconv.Itoa2
import Derived.Shelf.Strings.Search1
import Derived.Shelf.Strings.Search2
import Derived.Shelf.Strings.Cut
import Derived.Shelf.Strings.Shaped
import Derived.Shelf.Strings.Prefix
import Derived.Shelf.Bits.Mul64
import Derived.Shelf.Strings.Repeat
import Derived.Shelf.Strings.BuilderCap
import Derived.Ground.Names2Prog
import Derived.Shelf.Slices.SearchI
import Derived.Test.YtancpaiaoamjlaaGreatDoorProg
import Derived.Deep.DeepCutAuto
namespace Go.Proofs.YtancpaiaoamjlaaGreatDoor
set_option maxRecDepth 100000
set_option maxHeartbeats 80000000
section
def H32:Nat:=4294967296
theorem Hl:H32*H32=B64:=by decide
structure Half (u1 u0 v1 v0 q r:Nat):Prop where
 rest:q*v1+r=u1
 rlt:r<H32
 big:u1*H32+u0<(q+1)*(v1*H32+v0)
 le:q≤H32+1
theorem Half.start {u1 u0 v1 v0:Nat} (hv1:v1<H32) (hv:H32≤2*v1) (hv0:v0<H32) (hu0:u0<H32) (hu:u1<v1*H32+v0):Half u1 u0 v1 v0 (u1 / v1) (u1 % v1):=by
 have hp:0<v1:=by unfold H32 at *;omega
 have e:u1 / v1*v1+u1 % v1=u1:=by rw [Nat.mul_comm];exact Nat.div_add_mod u1 v1
 have hm:u1 % v1<v1:=Nat.mod_lt _ hp
 refine ⟨e,by omega,?_,?_⟩
 ·have h1:u1+1≤(u1 / v1+1)*v1:=by rw [Nat.add_mul];omega
  have h2:(u1+1)*H32≤(u1 / v1+1)*v1*H32:=Nat.mul_le_mul_right _ h1
  have h3:(u1 / v1+1)*(v1*H32+v0)=(u1 / v1+1)*v1*H32+(u1 / v1+1)*v0:=by rw [Nat.mul_add,Nat.mul_assoc]
  rw [Nat.add_mul] at h2
  omega
 ·have h1:u1<(H32+2)*v1:=by rw [Nat.add_mul,Nat.mul_comm H32 v1];omega
  have:=Nat.div_lt_of_lt_mul (by rw [Nat.mul_comm];exact h1:u1<v1*(H32+2))
  omega
theorem Half.step {u1 u0 v1 v0 q r:Nat} (h:Half u1 u0 v1 v0 q r) (hu0:u0<H32) (hu:u1<v1*H32+v0) (ht:H32≤q∨H32*r+u0<q*v0) :
  1≤q∧(q - 1)*v1+(r+v1)=u1∧u1*H32+u0<(q - 1+1)*(v1*H32+v0):=by
 have hlt:u1*H32+u0<q*(v1*H32+v0):=by
  rcases ht with h1 | h1
  ·have h2:(u1+1)*H32≤(v1*H32+v0)*H32:=Nat.mul_le_mul_right _ hu
   have h3:H32*(v1*H32+v0)≤q*(v1*H32+v0):=Nat.mul_le_mul_right _ h1
   rw [Nat.add_mul] at h2
   rw [Nat.mul_comm] at h3
   omega
  ·have h2:(q*v1+r)*H32=u1*H32:=by rw [h.rest]
   have h3:q*(v1*H32+v0)=q*v1*H32+q*v0:=by rw [Nat.mul_add,Nat.mul_assoc]
   rw [Nat.add_mul,Nat.mul_comm r] at h2
   omega
 have hq:1≤q:=by
  rcases Nat.eq_zero_or_pos q with h0 | h0
  ·subst h0;omega
  ·exact h0
 obtain ⟨p,rfl⟩:∃ p,q=p+1:=⟨q - 1,by omega⟩
 refine ⟨hq,?_,?_⟩
 ·have:=h.rest;rw [Nat.add_mul] at this;rw [Nat.add_sub_cancel];omega
 ·rw [Nat.add_sub_cancel];exact hlt
theorem tY {u1 u0 v1 v0 q r:Nat} (e:q*v1+r=u1) (hb:u1*H32+u0<(q+1)*(v1*H32+v0)) (hle:q*v0≤H32*r+u0) (hu0:u0<H32) (hu:u1<v1*H32+v0) :
  q=(u1*H32+u0) / (v1*H32+v0)∧q<H32∧q*(v1*H32+v0)+(u1*H32+u0) % (v1*H32+v0)=u1*H32+u0:=by
 have h1:q*(v1*H32+v0)≤u1*H32+u0:=by
  have h2:(q*v1+r)*H32=u1*H32:=by rw [e]
  have h3:q*(v1*H32+v0)=q*v1*H32+q*v0:=by rw [Nat.mul_add,Nat.mul_assoc]
  rw [Nat.add_mul,Nat.mul_comm r] at h2
  omega
 have hq:q=(u1*H32+u0) / (v1*H32+v0):=by
  symm
  rw [Nat.div_eq_iff (by omega)]
  constructor
  ·rw [Nat.mul_comm] at h1 ⊢;exact h1
  ·rw [Nat.add_mul] at hb;omega
 refine ⟨hq,?_,?_⟩
 ·rw [hq,Nat.div_lt_iff_lt_mul (by omega)]
  have:(u1+1)*H32≤(v1*H32+v0)*H32:=Nat.mul_le_mul_right _ hu
  rw [Nat.add_mul] at this
  rw [Nat.mul_comm H32]
  omega
 ·conv=>lhs;rw [hq]
  rw [Nat.mul_comm];exact Nat.div_add_mod _ _
theorem yU {q v0 r u0:Nat} (hq:q≤H32) (hr:H32≤r) (h:v0<H32):q*v0≤H32*r+u0:=by
 have h1:q*v0≤H32*H32:=Nat.mul_le_mul hq (Nat.le_of_lt h)
 have h2:H32*H32≤H32*r:=Nat.mul_le_mul_left _ hr
 omega
def kY (hi lo y:Nat):Nat:=(hi*B64+lo) / y
def jO (hi lo y:Nat):Nat:=(hi*B64+lo) % y
theorem Jp (hi lo y:Nat) (h:0<y):jO hi lo y<y:=Nat.mod_lt _ h
theorem Jr (hi lo y:Nat):kY hi lo y*y+jO hi lo y=hi*B64+lo:=by rw [Nat.mul_comm];exact Nat.div_add_mod _ _
theorem Jo (hi lo y:Nat) (hl:lo<B64) (h:hi<y):kY hi lo y<B64:=by
 unfold kY
 rw [Nat.div_lt_iff_lt_mul (by omega)]
 have:(hi+1)*B64≤y*B64:=Nat.mul_le_mul_right _ h
 rw [Nat.add_mul] at this
 rw [Nat.mul_comm B64];omega
theorem halves {hi lo y s q1 q0 un32 un1 un0 un21 r:Nat} (hy:0<y)
  (e:(hi*B64+lo)*2 ^ s=un32*B64+(un1*H32+un0)) (h1:q1*(y*2 ^ s)+un21=un32*H32+un1) (h0:q0*(y*2 ^ s)+r=un21*H32+un0) (hr:r<y*2 ^ s) :
  q1*H32+q0=kY hi lo y∧r / 2 ^ s=jO hi lo y:=by
 have hT:0<2 ^ s:=Nat.two_pow_pos s
 have e2:(hi*B64+lo)*2 ^ s=(q1*H32+q0)*(y*2 ^ s)+r:=by
  have hB:=Hl
  rw [e]
  generalize y*2 ^ s=v at *
  have t1:H32*(q1*v+un21)=H32*(un32*H32+un1):=by rw [h1]
  generalize H32=h at *
  clear e hT
  generalize B64=B at *
  subst hB
  grind
 unfold kY jO
 clear e h1 h0
 generalize hi*B64+lo=N at *
 generalize q1*H32+q0=Q at *
 generalize 2 ^ s=T at *
 have hd:N / y=Q:=by
  rw [← Nat.mul_div_mul_right N y hT,e2,Nat.mul_comm Q,Nat.mul_add_div (Nat.mul_pos hy hT),Nat.div_eq_of_lt hr,Nat.add_zero]
 have hm:(N % y)*T=r:=by
  rw [← Nat.mul_mod_mul_right,e2,Nat.mul_comm Q,Nat.mul_add_mod,Nat.mod_eq_of_lt hr]
 refine ⟨hd.symm,?_⟩
 rw [← hm,Nat.mul_div_cancel _ hT]
theorem IB (y:Nat) (hy:0<y) (h:y<B64):∃ s,s≤63∧Lib.bitLen y+s=64∧B64≤2*(y*2 ^ s)∧y*2 ^ s<B64:=by
 obtain ⟨h1,h2,h3⟩:=Lib.bitLenAux_bounds 64 y (by unfold B64 at h;omega) (by omega)
 have h4:=Lib.bitLen_le y 64 (by omega) (by unfold B64 at h;omega)
 unfold Lib.bitLen at h4
 refine ⟨64 - Lib.bitLenAux 64 y,by omega,by unfold Lib.bitLen;omega,?_,?_⟩
 ·generalize Lib.bitLenAux 64 y=L at *
  have:2 ^ (L - 1)*2 ^ (64 - L)≤y*2 ^ (64 - L):=Nat.mul_le_mul_right _ h2
  rw [← Nat.pow_add,show L - 1+(64 - L)=63 by omega] at this
  unfold B64
  omega
 ·generalize Lib.bitLenAux 64 y=L at *
  have:y*2 ^ (64 - L)<2 ^ L*2 ^ (64 - L):=Nat.mul_lt_mul_of_pos_right h3 (Nat.two_pow_pos _)
  rw [← Nat.pow_add,show L+(64 - L)=64 by omega] at this
  exact this
theorem Zh (hi lo y s:Nat) (hs:s≤63) (hl:lo<B64) (hlt:hi<y) (hy:y*2 ^ s<B64) :
  iH s hi lo=hi*2 ^ s+lo / 2 ^ (64 - s)∧(hi*B64+lo)*2 ^ s=iH s hi lo*B64+lo % 2 ^ (64 - s)*2 ^ s∧iH s hi lo<y*2 ^ s:=by
 have hT:0<2 ^ s:=Nat.two_pow_pos s
 have e:=jU s (by omega)
 have hup:=wW s lo (by omega) hl
 have h1:(hi+1)*2 ^ s≤y*2 ^ s:=Nat.mul_le_mul_right _ hlt
 rw [Nat.add_mul] at h1
 have h2:hi<2 ^ (64 - s):=by
  have:hi*2 ^ s<2 ^ (64 - s)*2 ^ s:=by rw [Nat.mul_comm (2 ^ (64 - s)),e];omega
  exact Nat.lt_of_mul_lt_mul_right this
 have e0:iH s hi lo=hi*2 ^ s+lo / 2 ^ (64 - s):=by unfold iH;rw [Nat.mod_eq_of_lt h2]
 refine ⟨e0,?_,by rw [e0];omega⟩
 rw [e0]
 have e3:lo % 2 ^ (64 - s)+2 ^ (64 - s)*(lo / 2 ^ (64 - s))=lo:=Nat.mod_add_div _ _
 generalize lo % 2 ^ (64 - s)=a at *
 generalize lo / 2 ^ (64 - s)=d at *
 generalize 2 ^ (64 - s)=S at *
 generalize 2 ^ s=T at *
 rw [← e3,← e]
 grind
end
end Go.Proofs.YtancpaiaoamjlaaGreatDoor
namespace Go.Proofs
open Go.Shelf
def Tryz.lays169_ren:Go.Shelf.Ren:=⟨fun | 169=>127 | n=>n,fun | 70=>140 | 9=>9 | 0=>0 | 72=>143 | 37=>141 | 127=>163 | 3=>3 | 5=>5 | n=>n,fun | n=>n⟩
theorem Tryz.lays169:Go.Proofs.Lays.n169 Tryz.prog Tryz.lays169_ren:={
  mixed:=by kernel_rfl
  f169:=Tryz.func127.trans (congrArg some (by kernel_rfl))
  t0:=Tryz.underlying0
  a0:=Tryz.isAgg0
  z0:=Tryz.sizeOf0
  v0:=Tryz.zeroValue0
  t3:=Tryz.underlying3
  a3:=Tryz.isAgg3
  z3:=Tryz.sizeOf3
  v3:=Tryz.zeroValue3
  t9:=Tryz.underlying9
  a9:=Tryz.isAgg9
  z9:=Tryz.sizeOf9
  v9:=Tryz.zeroValue9
  t37:=Tryz.underlying141
  a37:=Tryz.isAgg141
  z37:=Tryz.sizeOf141
  v37:=Tryz.zeroValue141
  t70:=Tryz.underlying140
  a70:=Tryz.isAgg140
  z70:=Tryz.sizeOf140
  v70:=Tryz.zeroValue140
  t72:=Tryz.underlying143
  a72:=Tryz.isAgg143
  z72:=Tryz.sizeOf143
  v72:=Tryz.zeroValue143
  t127:=Tryz.underlying163
  a127:=Tryz.isAgg163
  z127:=Tryz.sizeOf163
  v127:=Tryz.zeroValue163 }
theorem Tryz.Builder_Extra_169:Builder.Extra Tryz.prog Tryz.lays169_ren:={
  sizeBuilder:=by kernel_rfl
  liesBuilder:=by kernel_rfl
  t5:=Tryz.underlying5
  a5:=Tryz.isAgg5
  z5:=Tryz.sizeOf5
  v5:=Tryz.zeroValue5
  infoByte:=by kernel_rfl
  cellsByte:=by kernel_rfl
  sizeByte:=by kernel_rfl
  neB5:=by decide }
open Go.RowKit in
/-- (*strings.Builder).String: "String returns the accumulated string.": WHATEVER THE BUILDER HOLDS. (LAID: no walk: one application.) -/
theorem Tryz.Builder_String_any (B b:Nat) (l:List UInt8) (w:World) (h:Lib.IsBuilder 143 5 B b (Lib.byteCells l) w) (hBw:B≤w.heap.size) :
    Calls Tryz.prog 127 #[.pointer (some ⟨b,0,none⟩)] w fun e w'=>e=.returned (.string ⟨l.toArray⟩)∧Below B w w':=Any.Builder_String_any Tryz.lays169 Tryz.Builder_Extra_169 B b l w h hBw
def Tryz.lays134_ren:Go.Shelf.Ren:=⟨fun | 134=>132 | 129=>156 | n=>n,fun | 53=>24 | 3=>3 | 4=>4 | 46=>122 | 5=>5 | 9=>9 | n=>n,fun | n=>n⟩
theorem Tryz.lays134:Go.Proofs.Lays.n134 Tryz.prog Tryz.lays134_ren:={
  mixed:=by kernel_rfl
  f129:=Tryz.func156.trans (congrArg some (by kernel_rfl))
  f134:=Tryz.func132.trans (congrArg some (by kernel_rfl))
  t3:=Tryz.underlying3
  a3:=Tryz.isAgg3
  z3:=Tryz.sizeOf3
  v3:=Tryz.zeroValue3
  t4:=Tryz.underlying4
  a4:=Tryz.isAgg4
  z4:=Tryz.sizeOf4
  v4:=Tryz.zeroValue4
  t5:=Tryz.underlying5
  a5:=Tryz.isAgg5
  z5:=Tryz.sizeOf5
  v5:=Tryz.zeroValue5
  t9:=Tryz.underlying9
  a9:=Tryz.isAgg9
  z9:=Tryz.sizeOf9
  v9:=Tryz.zeroValue9
  t46:=Tryz.underlying122
  a46:=Tryz.isAgg122
  z46:=Tryz.sizeOf122
  v46:=Tryz.zeroValue122
  t53:=Tryz.underlying24
  a53:=Tryz.isAgg24
  z53:=Tryz.sizeOf24
  v53:=Tryz.zeroValue24 }
/-- bits.LeadingZeros64: "LeadingZeros64 returns the number of leading zero bits in x; the result is 64 for x == 0.": IT RETURNS '64 - Lib.bitLen x'; the world is ay it was. ITS CALLEE bits.Len64 IS MET BY ITS OWN CONTRACT OFF THE SHELF (lay that first): entered in place it sends the kernel out of memory. (LAID: no walk: one application.) -/
theorem Tryz.bits_LeadingZeros64 (x:Int) (w:World) (h0:0≤x) (h1:x≤18446744073709551615) :
    Calls Tryz.prog 132 #[.int .u64 x] w fun e w'=>e=.returned (.int .i64 (64 - (Lib.bitLen x.toNat:Int)))∧w' = w:=Any.bits_LeadingZeros64 Tryz.lays134 x w h0 h1
def Tryz.lays103_ren:Go.Shelf.Ren:=⟨fun | 103=>60 | 210=>99 | 206=>122 | n=>n,fun | 9=>9 | 4=>4 | 24=>86 | 3=>3 | n=>n,fun | n=>n⟩
theorem Tryz.lays103:Go.Proofs.Lays.n103 Tryz.prog Tryz.lays103_ren:={
  mixed:=by kernel_rfl
  f103:=Tryz.func60.trans (congrArg some (by kernel_rfl))
  f206:=Tryz.func122.trans (congrArg some (by kernel_rfl))
  f210:=Tryz.func99.trans (congrArg some (by kernel_rfl))
  t3:=Tryz.underlying3
  a3:=Tryz.isAgg3
  z3:=Tryz.sizeOf3
  v3:=Tryz.zeroValue3
  t4:=Tryz.underlying4
  a4:=Tryz.isAgg4
  z4:=Tryz.sizeOf4
  v4:=Tryz.zeroValue4
  t9:=Tryz.underlying9
  a9:=Tryz.isAgg9
  z9:=Tryz.sizeOf9
  v9:=Tryz.zeroValue9
  t24:=Tryz.underlying86
  a24:=Tryz.isAgg86
  z24:=Tryz.sizeOf86
  v24:=Tryz.zeroValue86 }
open Go.RowKit in
/-- strings.CutPrefix: "CutPrefix returns s without the provided leading prefix string and reports whether it found the prefix. If s doesn't start with prefix, CutPrefix returns s, false. If prefix is the empty string, CutPrefix returns s, true.": IT RETURNS '(Lib.trimPrefix s p, Lib.hasPrefix s p)'; the world is ay it was. (LAID: no walk: one application.) -/
theorem Tryz.strings_CutPrefix (s p:ByteArray) (w:World) :
    Calls Tryz.prog 60 #[.string s,.string p] w fun e w'=>e=.returned (.tuple #[.string ⟨(Lib.trimPrefix s.data.toList p.data.toList).toArray⟩,.bool (Lib.hasPrefix s.data.toList p.data.toList)])∧w' = w:=Any.strings_CutPrefix Tryz.lays103 s p w
def Tryz.lays129_ren:Go.Shelf.Ren:=⟨fun | 129=>156 | n=>n,fun | 53=>24 | 3=>3 | 4=>4 | 46=>122 | 5=>5 | 9=>9 | n=>n,fun | n=>n⟩
theorem Tryz.lays129:Go.Proofs.Lays.n129 Tryz.prog Tryz.lays129_ren:={
  mixed:=by kernel_rfl
  f129:=Tryz.func156.trans (congrArg some (by kernel_rfl))
  t3:=Tryz.underlying3
  a3:=Tryz.isAgg3
  z3:=Tryz.sizeOf3
  v3:=Tryz.zeroValue3
  t4:=Tryz.underlying4
  a4:=Tryz.isAgg4
  z4:=Tryz.sizeOf4
  v4:=Tryz.zeroValue4
  t5:=Tryz.underlying5
  a5:=Tryz.isAgg5
  z5:=Tryz.sizeOf5
  v5:=Tryz.zeroValue5
  t9:=Tryz.underlying9
  a9:=Tryz.isAgg9
  z9:=Tryz.sizeOf9
  v9:=Tryz.zeroValue9
  t46:=Tryz.underlying122
  a46:=Tryz.isAgg122
  z46:=Tryz.sizeOf122
  v46:=Tryz.zeroValue122
  t53:=Tryz.underlying24
  a53:=Tryz.isAgg24
  z53:=Tryz.sizeOf24
  v53:=Tryz.zeroValue24 }
/-- bits.Len64: "Len64 returns the minimum number of bits required to represent x; the result is 0 for x == 0.": IT RETURNS 'Lib.bitLen x'; the world is ay it was. ('h0', 'h1': x is a uint64.) (LAID: no walk: one application.) -/
theorem Tryz.bits_Len64 (x:Int) (w:World) (h0:0≤x) (h1:x≤18446744073709551615) :
    Calls Tryz.prog 156 #[.int .u64 x] w fun e w'=>e=.returned (.int .i64 (Lib.bitLen x.toNat))∧w' = w:=Any.bits_Len64 Tryz.lays129 x w h0 h1
def Tryz.lays283_ren:Go.Shelf.Ren:=⟨fun | 283=>151 | n=>n,fun | 3=>3 | 9=>9 | 4=>4 | n=>n,fun | n=>n⟩
theorem Tryz.lays283:Go.Proofs.Lays.n283 Tryz.prog Tryz.lays283_ren:={
  mixed:=by kernel_rfl
  f283:=Tryz.func151.trans (congrArg some (by kernel_rfl))
  t3:=Tryz.underlying3
  a3:=Tryz.isAgg3
  z3:=Tryz.sizeOf3
  v3:=Tryz.zeroValue3
  t4:=Tryz.underlying4
  a4:=Tryz.isAgg4
  z4:=Tryz.sizeOf4
  v4:=Tryz.zeroValue4
  t9:=Tryz.underlying9
  a9:=Tryz.isAgg9
  z9:=Tryz.sizeOf9
  v9:=Tryz.zeroValue9 }
open Go.Lib in
/-- internal/strconv.small: "small returns the string for an i with 0 <= i < nSmalls.": i's decimal numeral. The world is ay it was. (LAID: no walk: one application.) -/
theorem Tryz.internal_strconv_small (i:Nat) (h:i<100) (w:World) :
    Calls Tryz.prog 151 #[.int .i64 i] w fun e w'=>e=.returned (.string ⟨(Lib.decDigits i).toArray⟩)∧w' = w:=Any.internal_strconv_small Tryz.lays283 i h w
def Tryz.laysM284_ren:Go.Shelf.Ren:=⟨fun | 284=>152 | 129=>156 | 317=>163 | 318=>164 | n=>n,fun | 53=>24 | 3=>3 | 212=>177 | 0=>0 | 4=>4 | 46=>122 | 5=>5 | 9=>9 | n=>n,fun | 17=>4 | n=>n⟩
theorem Tryz.laysM284:Go.Proofs.LaysM.n284 Tryz.prog Tryz.laysM284_ren:={
  mixed:=by kernel_rfl
  f129:=Tryz.func156.trans (congrArg some (by kernel_rfl))
  f284:=Tryz.func152.trans (congrArg some (by kernel_rfl))
  f317:=Tryz.func163.trans (congrArg some (by kernel_rfl))
  f318:=Tryz.func164.trans (congrArg some (by kernel_rfl))
  t0:=Tryz.underlying0
  a0:=Tryz.isAgg0
  z0:=Tryz.sizeOf0
  v0:=Tryz.zeroValue0
  t3:=Tryz.underlying3
  a3:=Tryz.isAgg3
  z3:=Tryz.sizeOf3
  v3:=Tryz.zeroValue3
  t4:=Tryz.underlying4
  a4:=Tryz.isAgg4
  z4:=Tryz.sizeOf4
  v4:=Tryz.zeroValue4
  t5:=Tryz.underlying5
  a5:=Tryz.isAgg5
  z5:=Tryz.sizeOf5
  v5:=Tryz.zeroValue5
  t9:=Tryz.underlying9
  a9:=Tryz.isAgg9
  z9:=Tryz.sizeOf9
  v9:=Tryz.zeroValue9
  t46:=Tryz.underlying122
  a46:=Tryz.isAgg122
  z46:=Tryz.sizeOf122
  v46:=Tryz.zeroValue122
  t53:=Tryz.underlying24
  a53:=Tryz.isAgg24
  z53:=Tryz.sizeOf24
  v53:=Tryz.zeroValue24
  t212:=Tryz.underlying177
  a212:=Tryz.isAgg177
  z212:=Tryz.sizeOf177
  v212:=Tryz.zeroValue177
  g17:=by kernel_rfl
  i0:=by kernel_rfl
  i3:=by kernel_rfl
  i4:=by kernel_rfl
  i5:=by kernel_rfl
  i9:=by kernel_rfl
  i46:=by kernel_rfl
  i53:=by kernel_rfl
  i212:=by kernel_rfl
  m17:=by kernel_rfl }
open Go.Lib in
/-- internal/strconv.numDigits, at a d that is not 0: THE NUMBER OF d's DECIMAL DIGITS. The world is ay it was. (LAID: no walk: one application.) -/
theorem Tryz.internal_strconv_numDigits (u:Nat) (h1:1≤u) (h2:u<18446744073709551616) (w:World) (htab:Lib.TabIs Tryz.prog w "internal/strconv.uint64pow10" .u64 Lib.pow10Tab) :
    Calls Tryz.prog 152 #[.int .u64 u] w fun e w'=>e=.returned (.int .i64 (Lib.nDigits u))∧w' = w:=Any.internal_strconv_numDigits Tryz.laysM284 u h1 h2 w htab
def Tryz.lays285_ren:Go.Shelf.Ren:=⟨fun | 285=>153 | n=>n,fun | 37=>141 | 53=>24 | 3=>3 | 4=>4 | 51=>170 | 9=>9 | 5=>5 | 0=>0 | n=>n,fun | n=>n⟩
theorem Tryz.lays285:Go.Proofs.Lays.n285 Tryz.prog Tryz.lays285_ren:={
  mixed:=by kernel_rfl
  f285:=Tryz.func153.trans (congrArg some (by kernel_rfl))
  t0:=Tryz.underlying0
  a0:=Tryz.isAgg0
  z0:=Tryz.sizeOf0
  v0:=Tryz.zeroValue0
  t3:=Tryz.underlying3
  a3:=Tryz.isAgg3
  z3:=Tryz.sizeOf3
  v3:=Tryz.zeroValue3
  t4:=Tryz.underlying4
  a4:=Tryz.isAgg4
  z4:=Tryz.sizeOf4
  v4:=Tryz.zeroValue4
  t5:=Tryz.underlying5
  a5:=Tryz.isAgg5
  z5:=Tryz.sizeOf5
  v5:=Tryz.zeroValue5
  t9:=Tryz.underlying9
  a9:=Tryz.isAgg9
  z9:=Tryz.sizeOf9
  v9:=Tryz.zeroValue9
  t37:=Tryz.underlying141
  a37:=Tryz.isAgg141
  z37:=Tryz.sizeOf141
  v37:=Tryz.zeroValue141
  t51:=Tryz.underlying170
  a51:=Tryz.isAgg170
  z51:=Tryz.sizeOf170
  v51:=Tryz.zeroValue170
  t53:=Tryz.underlying24
  a53:=Tryz.isAgg24
  z53:=Tryz.sizeOf24
  v53:=Tryz.zeroValue24 }
open Go.RowKit Go.Sort Go.Lib in
/-- internal/strconv.formatBase10: "formatBase10 formats the decimal representation of u into a. The caller is responsible for ensuring that a is big enough to hold u. If a is too big, leading zeros will be filled in ay needed.": THE ROW HOLDS u's DIGITS ('FmtInv .. 0 ..': every place t holds 'dg u (len - 1 - t)'); all else is ay it was but for the count of draws. (LAID: no walk: one application.) -/
theorem Tryz.internal_strconv_formatBase10 (blk off cap:Nat) (u:Nat) (d:Array UInt8) (w:World) (hH:Holds (fun (b:UInt8)=>Value.int .u8 (b.toNat:Int)) w blk off d) (hu:u<10 ^ d.size) (hu64:u<18446744073709551616) (hsz:d.size<4611686018427387904) :
    Calls Tryz.prog 153 #[.slice (some ⟨blk,off,none⟩) d.size cap,.int .u64 u] w fun e w' =>
      e=.returned (.tuple #[])∧∃ (n v':Nat) (dk:Array UInt8),w' = (putRow (fun (b:UInt8)=>Value.int .u8 (b.toNat:Int)) w blk off dk).drewN n∧FmtInv d.size u 0 v' dk:=Any.internal_strconv_formatBase10 Tryz.lays285 blk off cap u d w hH hu hu64 hsz
def Tryz.lays145_ren:Go.Shelf.Ren:=⟨fun | 145=>61 | 220=>100 | 219=>123 | 217=>142 | 225=>143 | 224=>144 | 267=>145 | 266=>158 | 314=>159 | n=>n,fun | 9=>9 | 4=>4 | 59=>88 | 3=>3 | 5=>5 | 46=>122 | 146=>171 | 51=>170 | n=>n,fun | 1=>1 | n=>n⟩
theorem Tryz.lays145:Go.Proofs.Lays.n145 Tryz.prog Tryz.lays145_ren:={
  mixed:=by kernel_rfl
  f145:=Tryz.func61.trans (congrArg some (by kernel_rfl))
  f217:=Tryz.func142.trans (congrArg some (by kernel_rfl))
  f219:=Tryz.func123.trans (congrArg some (by kernel_rfl))
  f220:=Tryz.func100.trans (congrArg some (by kernel_rfl))
  f224:=Tryz.func144.trans (congrArg some (by kernel_rfl))
  f225:=Tryz.func143.trans (congrArg some (by kernel_rfl))
  f266:=Tryz.func158.trans (congrArg some (by kernel_rfl))
  f267:=Tryz.func145.trans (congrArg some (by kernel_rfl))
  f314:=Tryz.func159.trans (congrArg some (by kernel_rfl))
  t3:=Tryz.underlying3
  a3:=Tryz.isAgg3
  z3:=Tryz.sizeOf3
  v3:=Tryz.zeroValue3
  t4:=Tryz.underlying4
  a4:=Tryz.isAgg4
  z4:=Tryz.sizeOf4
  v4:=Tryz.zeroValue4
  t5:=Tryz.underlying5
  a5:=Tryz.isAgg5
  z5:=Tryz.sizeOf5
  v5:=Tryz.zeroValue5
  t9:=Tryz.underlying9
  a9:=Tryz.isAgg9
  z9:=Tryz.sizeOf9
  v9:=Tryz.zeroValue9
  t46:=Tryz.underlying122
  a46:=Tryz.isAgg122
  z46:=Tryz.sizeOf122
  v46:=Tryz.zeroValue122
  t51:=Tryz.underlying170
  a51:=Tryz.isAgg170
  z51:=Tryz.sizeOf170
  v51:=Tryz.zeroValue170
  t59:=Tryz.underlying88
  a59:=Tryz.isAgg88
  z59:=Tryz.sizeOf88
  v59:=Tryz.zeroValue88
  t146:=Tryz.underlying171
  a146:=Tryz.isAgg171
  z146:=Tryz.sizeOf171
  v146:=Tryz.zeroValue171
  g1:=by kernel_rfl }
open Go.RowKit Go.Lib in
/-- strings.Cut: "Cut slices s around the first instance of sep, returning the text before and after sep. The found result reports whether sep appears in s. If sep does not appear in s, cut returns s, "", false.": IT RETURNS 'Lib.cut s sep'; the world is ay it was but for the count of draws. (LAID: no walk: one application.) -/
theorem Tryz.strings_Cut (s sep:ByteArray) (m:Int) (w:World) (hs:s.size<4294967281) (hm:w.cell? ⟨1,0,none⟩=some (.int .i64 m)) :
    Calls Tryz.prog 61 #[.string s,.string sep] w fun e w'=>e=.returned (.tuple #[.string ⟨(Lib.cut s.data.toList sep.data.toList).1.toArray⟩,.string ⟨(Lib.cut s.data.toList sep.data.toList).2.1.toArray⟩,.bool (Lib.cut s.data.toList sep.data.toList).2.2])∧∃ n,w' = w.drewN n:=Any.strings_Cut Tryz.lays145 s sep m w hs hm
def Tryz.lays105_ren:Go.Shelf.Ren:=⟨fun | 105=>126 | 212=>147 | 99=>148 | 165=>149 | 166=>125 | 170=>150 | 169=>127 | 263=>161 | 264=>84 | 206=>122 | 240=>146 | 241=>162 | 276=>160 | 277=>167 | n=>n,fun | 9=>9 | 3=>3 | 4=>4 | 20=>20 | 0=>0 | 46=>122 | 109=>160 | 5=>5 | 72=>143 | 76=>146 | 51=>170 | 146=>171 | 53=>24 | 148=>104 | 70=>140 | 37=>141 | 75=>145 | 127=>163 | 164=>173 | 80=>64 | n=>n,fun | n=>n⟩
theorem Tryz.lays105:Go.Proofs.Lays.n105 Tryz.prog Tryz.lays105_ren:={
  mixed:=by kernel_rfl
  f99:=Tryz.func148.trans (congrArg some (by kernel_rfl))
  f105:=Tryz.func126.trans (congrArg some (by kernel_rfl))
  f165:=Tryz.func149.trans (congrArg some (by kernel_rfl))
  f166:=Tryz.func125.trans (congrArg some (by kernel_rfl))
  f169:=Tryz.func127.trans (congrArg some (by kernel_rfl))
  f170:=Tryz.func150.trans (congrArg some (by kernel_rfl))
  f206:=Tryz.func122.trans (congrArg some (by kernel_rfl))
  f212:=Tryz.func147.trans (congrArg some (by kernel_rfl))
  f240:=Tryz.func146.trans (congrArg some (by kernel_rfl))
  f241:=Tryz.func162.trans (congrArg some (by kernel_rfl))
  f263:=Tryz.func161.trans (congrArg some (by kernel_rfl))
  f264:=Tryz.func84.trans (congrArg some (by kernel_rfl))
  f276:=Tryz.func160.trans (congrArg some (by kernel_rfl))
  f277:=Tryz.func167.trans (congrArg some (by kernel_rfl))
  t0:=Tryz.underlying0
  a0:=Tryz.isAgg0
  z0:=Tryz.sizeOf0
  v0:=Tryz.zeroValue0
  t3:=Tryz.underlying3
  a3:=Tryz.isAgg3
  z3:=Tryz.sizeOf3
  v3:=Tryz.zeroValue3
  t4:=Tryz.underlying4
  a4:=Tryz.isAgg4
  z4:=Tryz.sizeOf4
  v4:=Tryz.zeroValue4
  t5:=Tryz.underlying5
  a5:=Tryz.isAgg5
  z5:=Tryz.sizeOf5
  v5:=Tryz.zeroValue5
  t9:=Tryz.underlying9
  a9:=Tryz.isAgg9
  z9:=Tryz.sizeOf9
  v9:=Tryz.zeroValue9
  t20:=Tryz.underlying20
  a20:=Tryz.isAgg20
  z20:=Tryz.sizeOf20
  v20:=Tryz.zeroValue20
  t37:=Tryz.underlying141
  a37:=Tryz.isAgg141
  z37:=Tryz.sizeOf141
  v37:=Tryz.zeroValue141
  t46:=Tryz.underlying122
  a46:=Tryz.isAgg122
  z46:=Tryz.sizeOf122
  v46:=Tryz.zeroValue122
  t51:=Tryz.underlying170
  a51:=Tryz.isAgg170
  z51:=Tryz.sizeOf170
  v51:=Tryz.zeroValue170
  t53:=Tryz.underlying24
  a53:=Tryz.isAgg24
  z53:=Tryz.sizeOf24
  v53:=Tryz.zeroValue24
  t70:=Tryz.underlying140
  a70:=Tryz.isAgg140
  z70:=Tryz.sizeOf140
  v70:=Tryz.zeroValue140
  t72:=Tryz.underlying143
  a72:=Tryz.isAgg143
  z72:=Tryz.sizeOf143
  v72:=Tryz.zeroValue143
  t75:=Tryz.underlying145
  a75:=Tryz.isAgg145
  z75:=Tryz.sizeOf145
  v75:=Tryz.zeroValue145
  t76:=Tryz.underlying146
  a76:=Tryz.isAgg146
  z76:=Tryz.sizeOf146
  v76:=Tryz.zeroValue146
  t109:=Tryz.underlying160
  a109:=Tryz.isAgg160
  z109:=Tryz.sizeOf160
  v109:=Tryz.zeroValue160
  t127:=Tryz.underlying163
  a127:=Tryz.isAgg163
  z127:=Tryz.sizeOf163
  v127:=Tryz.zeroValue163
  t146:=Tryz.underlying171
  a146:=Tryz.isAgg171
  z146:=Tryz.sizeOf171
  v146:=Tryz.zeroValue171
  t148:=Tryz.underlying104
  a148:=Tryz.isAgg104
  z148:=Tryz.sizeOf104
  v148:=Tryz.zeroValue104
  t164:=Tryz.underlying173
  a164:=Tryz.isAgg173
  z164:=Tryz.sizeOf173
  v164:=Tryz.zeroValue173 }
theorem Tryz.Builder_Extra_105:Builder.Extra Tryz.prog Tryz.lays105_ren:={
  sizeBuilder:=by kernel_rfl
  liesBuilder:=by kernel_rfl
  t5:=Tryz.underlying5
  a5:=Tryz.isAgg5
  z5:=Tryz.sizeOf5
  v5:=Tryz.zeroValue5
  infoByte:=by kernel_rfl
  cellsByte:=by kernel_rfl
  sizeByte:=by kernel_rfl
  neB5:=by decide }
open Go.RowKit Go.Lib in
/-- **strings.Repeat: count ≥ 0, the result within one allocation: count copies of s.** (LAID: no walk: one application.) -/
theorem Tryz.strings_Repeat (s:ByteArray) (c:Nat) (w:World) (hc:c≤9223372036854775807) (hlen:s.size*c≤140737488355328) :
    Calls Tryz.prog 126 #[.string s,.int .i64 c] w fun e w'=>e=.returned (.string ⟨(Lib.repeatL s.data.toList c).toArray⟩)∧Below w.heap.size w w':=Any.strings_Repeat Tryz.lays105 Tryz.Builder_Extra_105 s c w hc hlen
end Go.Proofs
namespace Go.Proofs.YtancpaiaoamjlaaGreatDoor
set_option maxRecDepth 100000
set_option maxHeartbeats 80000000
section
open Go.RowKit Go.Sort
theorem Bc (y s:Nat) (hy:y<B64) (hs:Lib.bitLen y+s=64) (w:World):Calls Tryz.prog 132 #[.int .u64 (y:Int)] w fun e w'=>e=.returned (.int .i64 (s:Int))∧w=w':=
 (Tryz.bits_LeadingZeros64 y w (by omega) (by unfold B64 at hy;omega)).mono fun e w' ⟨h1,h2⟩=>⟨by rw [h1,Int.toNat_natCast];congr 2;omega,h2.symm⟩
def Bf (w:World) (hi lo y:Nat) (e:Ending) (w':World):Prop:=e=.returned (.tuple #[.int .u64 ((kY hi lo y:Nat):Int),.int .u64 ((jO hi lo y:Nat):Int)])∧∃ q,w' = w.drewN q
theorem Ik (x:Nat) (hx:x<B64):bits .and .u64 (x:Int) 4294967295=((x % H32:Nat):Int):=Mul64.maskN x (by unfold B64 at hx;exact hx)
def bZ (x y:Nat):Nat:=x*y % B64
def qg (x y:Nat):Nat:=(x+y) % B64
def pG (x y:Nat):Nat:=(x+(B64 - y % B64)) % B64
theorem rQ (x y:Nat):IntKind.u64.wrap ((x:Int)*(y:Int))=((bZ x y:Nat):Int):=by
 rw [show ((x:Int)*(y:Int))=((x*y:Nat):Int) by push_cast;rfl,lN];rfl
theorem wY (x y:Nat) (hx:x<B64):IntKind.u64.wrap ((x:Int) / (y:Int))=((x / y:Nat):Int):=by
 rw [show ((x:Int) / (y:Int))=((x / y:Nat):Int) by push_cast;rfl,lN,Nat.mod_eq_of_lt (Nat.lt_of_le_of_lt (Nat.div_le_self _ _) hx)]
theorem EZ {x y:Nat} (h:x*y<B64):bZ x y=x*y:=Nat.mod_eq_of_lt h
theorem N8 {x y:Nat} (hx:x<B64) (h:y≤x):pG x y=x - y:=by unfold pG B64 at *;omega
theorem OA (x:Nat):IntKind.u64.wrap ((x:Int)*4294967296)=((bZ x H32:Nat):Int):=by
 have:=rQ x H32
 unfold H32 at this
 exact this
theorem OC (r:Nat) (h:r<H32):IntKind.u64.wrap (4294967296*(r:Int))=((H32*r:Nat):Int):=by
 unfold H32 at *
 rw [show ((4294967296*r:Nat):Int)=4294967296*(r:Int) by omega]
 exact IntWalk.u64_in _ (by omega)
theorem OB (r u:Nat) (h:r<H32) (hu:u<H32):IntKind.u64.wrap (((H32*r:Nat):Int)+(u:Int))=((H32*r+u:Nat):Int):=by
 unfold H32 at *
 rw [show ((4294967296*r:Nat):Int)+(u:Int)=((4294967296*r+u:Nat):Int) by omega]
 exact IntWalk.u64_in _ (by omega)
theorem Ld {x y:Nat} (hx:x<H32) (hy:y<H32):bZ x y=x*y:=EZ (by rw [← Hl];exact Nat.lt_of_le_of_lt (Nat.mul_le_mul_left _ (Nat.le_of_lt hy)) (Nat.mul_lt_mul_of_pos_right hx (by decide)))
theorem N9 {u1 u0 m:Nat} (h:m≤u1*H32+u0) (hd:u1*H32+u0 - m<B64):pG (qg (bZ u1 H32) u0) (m % B64)=u1*H32+u0 - m:=by
 unfold pG qg bZ
 generalize u1*H32=a at *
 unfold B64 at *
 omega
theorem Oz (x y:Nat):IntKind.u64.wrap ((x:Int)+(y:Int))=((qg x y:Nat):Int):=by
 rw [show ((x:Int)+(y:Int))=((x+y:Nat):Int) by push_cast;rfl,lN];rfl
theorem AU (x y:Nat):IntKind.u64.wrap ((x:Int) - (y:Int))=((pG x y:Nat):Int):=by
 rw [IntKind.wrap_u64];unfold pG B64;omega
theorem OO (lo y:Nat) (hh:0<y) (hl:lo<B64) (w:World) :
  Calls Tryz.prog 131 #[.int .u64 0,.int .u64 (lo:Int),.int .u64 (y:Int)] w (Bf w 0 lo y):=by
 have e1:Hid (kY 0 lo y=lo / y):=by show _=_;unfold kY;simp
 have e2:Hid (jO 0 lo y=lo % y):=by show _=_;unfold jO;simp
 have ew:=wY lo y hl
 clear hl
 go_enter Tryz.func131,Tryz.ntmps131
 go_wp2
 go_region
 all_goals go_wp2
 all_goals go_ret2
 refine ⟨?_,1,rfl⟩
 rw [e1.out,e2.out]
 show Ending.returned (.tuple #[.int .u64 ↑(lo / y),.int .u64 ((lo:Int) % y)])=_
 push_cast
 rfl
theorem OQ (hi lo y:Nat) (h0:0<hi) (hh:hi<y) (hl:lo<B64) (hy:y<B64) (w:World) :
  Calls Tryz.prog 131 #[.int .u64 (hi:Int),.int .u64 (lo:Int),.int .u64 (y:Int)] w (Bf w hi lo y):=by
 obtain ⟨s,hs,hbl,hn1,hn2⟩:=IB y (by omega) hy
 obtain ⟨k1,k2,k3⟩:=Zh hi lo y s hs hl hh hn2
 have hv:IntKind.u64.wrap ((y:Int)*2 ^ s)=((y*2 ^ s:Nat):Int):=by
  rw [show ((y:Int)*2 ^ s)=((y*2 ^ s:Nat):Int) by push_cast;rfl,lN,Nat.mod_eq_of_lt hn2]
 have ho:=Gq s hi lo (by omega) hl
 have hlo:=NK s lo (by omega)
 have hs1:rG s lo<B64:=tZ s lo 0 (by omega) (Nat.two_pow_pos _)
 have ha1:=Ik (y*2 ^ s) hn2
 have ha2:=Ik (rG s lo) hs1
 have k2':(hi*B64+lo)*2 ^ s=iH s hi lo*B64+rG s lo:=k2
 obtain ⟨v,ev⟩:∃ v,y*2 ^ s=v:=⟨_,rfl⟩
 obtain ⟨un32,eu⟩:∃ u,iH s hi lo=u:=⟨_,rfl⟩
 obtain ⟨un10,eu0⟩:∃ u,rG s lo=u:=⟨_,rfl⟩
 rw [ev] at hn1 hn2 k3 hv ha1
 rw [eu] at k3 ho k2'
 rw [eu0] at hlo hs1 ha2 k2'
 have KK:=hid k2'
 have EV:=hid ev
 have BL:=hid hbl
 have YY:=hid hy
 have HN1:=hid hn1
 have HN2:=hid hn2
 have K3:=hid k3
 have HS1:=hid hs1
 have cs0:(0:Int)≤64 - (s:Int):=by omega
 obtain ⟨v1,ev1⟩:∃ u,v / H32=u:=⟨_,rfl⟩
 obtain ⟨v0,ev0⟩:∃ u,v % H32=u:=⟨_,rfl⟩
 obtain ⟨un1,eun1⟩:∃ u,un10 / H32=u:=⟨_,rfl⟩
 obtain ⟨un0,eun0⟩:∃ u,un10 % H32=u:=⟨_,rfl⟩
 have evv:v1*H32+v0=v:=by rw [← ev1,← ev0,Nat.mul_comm];exact Nat.div_add_mod _ _
 have eun:un1*H32+un0=un10:=by rw [← eun1,← eun0,Nat.mul_comm];exact Nat.div_add_mod _ _
 have l0:v0<H32:=by rw [← ev0];exact Nat.mod_lt _ (by decide)
 have l1:v1<H32:=by rw [← ev1];unfold H32 B64 at *;omega
 have l2:H32≤2*v1:=by rw [← ev1];unfold H32 B64 at *;omega
 have l3:un0<H32:=by rw [← eun0];exact Nat.mod_lt _ (by decide)
 have l4:un1<H32:=by rw [← eun1];unfold H32 B64 at *;omega
 have l5:un32<v1*H32+v0:=by rw [evv];exact k3
 have hr1:(v:Int) / 4294967296=(v1:Int):=by rw [← ev1];unfold H32;omega
 have hr2:(un10:Int) / 4294967296=(un1:Int):=by rw [← eun1];unfold H32;omega
 rw [ev0] at ha1
 rw [eun0] at ha2
 have HS:=Half.start (u0:=un1) l1 l2 l0 l4 l5
 have hq0:=wY un32 v1 (by omega)
 have hm0:=rQ (un32 / v1) v1
 have hs0:=AU un32 (bZ (un32 / v1) v1)
 have er:pG un32 (bZ (un32 / v1) v1)=un32 % v1:=by
  have e:=HS.rest
  rw [EZ (by omega),N8 (by omega) (by omega)];omega
 rw [er] at hs0
 obtain ⟨q0,eq0⟩:∃ u,un32 / v1=u:=⟨_,rfl⟩
 obtain ⟨r0,er0⟩:∃ u,un32 % v1=u:=⟨_,rfl⟩
 obtain ⟨m0,em0⟩:∃ u,bZ (un32 / v1) v1=u:=⟨_,rfl⟩
 rw [eq0] at hq0 hm0 em0 hs0
 rw [em0] at hm0 hs0
 rw [er0] at hs0
 rw [eq0,er0] at HS
 have HS0:=hid HS
 have EVV:=hid evv
 have EUN:=hid eun
 have b2:2147483648≤v1:=by unfold H32 at l2;omega
 have b2':v1<4294967296:=l1
 have b0:v0<4294967296:=l0
 have b5:un1<4294967296:=l4
 have b6:un0<4294967296:=l3
 have HL2:=hid l2
 have HL5:=hid l5
 clear k1 k2 k2' ev eu eu0 hbl hy hl hn1 hn2 k3 hs1 ev1 ev0 eun1 eun0 evv eun er eq0 er0 em0 HS l0 l1 l2 l3 l4 l5
 go_enter Tryz.func131,Tryz.ntmps131
 go_upto_block 0 with (go_at_call 132;refine (Bc _ _ YY.out BL.out _).mono ?_;rintro e w' ⟨rfl,rfl⟩)
 clear ho hlo ha1 ha2 hr1 hr2 hq0 hm0 hs0 hv
 go_cut [15] (fun qv wx=>w=wx∧∃ q:Nat,qv=.int .u64 q∧q<4294967296∧Hid (q*(v1*H32+v0)+(un32*H32+un1) % (v1*H32+v0)=un32*H32+un1))
 case first =>
  have HSS:=HS0
  have HLL:=HL5
  have hu0:Hid (un1<H32):=b5
  have B0:Hid (v0<H32):=b0
  clear HS0 HL5 b2 b0 cs0 hs b6 h0 hh
  go_wp2
  go_loop [15,16] (fun qv rv=>∃ q r:Nat,qv=.int .u64 q∧rv=.int .u64 r∧Half un32 un1 v1 v0 q r) (fun qv _=>(intOf qv).toNat)
  case atStart=>exact ⟨_,_,rfl,rfl,HSS.out⟩
  case round =>
   obtain ⟨q,r,rfl,rfl,hH⟩:=hrel
   have hr32:r<4294967296:=hH.rlt
   have hq1:q≤4294967297:=hH.le
   have HH:=hid hH
   have w2:IntKind.u64.wrap ((r:Int)+(v1:Int))=((r+v1:Nat):Int):=by rw [show ((r+v1:Nat):Int)=(r:Int)+v1 by omega];exact IntWalk.u64_in _ (by omega)
   obtain ⟨r',er'⟩:∃ u,r+v1=u:=⟨_,rfl⟩
   rw [er'] at w2
   have ER:=hid er'
   by_cases c1:4294967296≤q
   ·obtain ⟨t1,t2,t3⟩:=hH.step hu0.out HLL.out (.inl c1)
    have hle:q - 1≤4294967296:=by omega
    have d1:decide ((4294967296:Int)≤(q:Int))=true:=decide_eq_true (by omega)
    have w1:IntKind.u64.wrap ((q:Int) - 1)=((q - 1:Nat):Int):=by rw [show ((q - 1:Nat):Int)=(q:Int) - 1 by omega];exact IntWalk.u64_in _ (by omega)
    have hlt:Hid (q - 1<q):=by show _<_;omega
    obtain ⟨q',eq'⟩:∃ u,q - 1=u:=⟨_,rfl⟩
    rw [er',eq'] at t2
    rw [eq'] at w1 hle t3 hlt
    have T2:=hid t2
    have T3:=hid t3
    have HLE:=hid hle
    by_cases c2:4294967296≤r'
    ·have d2:decide ((4294967296:Int)≤(r':Int))=true:=decide_eq_true (by omega)
     have hd:=tY T2.out T3.out (yU HLE.out c2 B0.out) hu0.out HLL.out
     have HD:=hid hd
     clear hd hH t1 t2 t3 hle hq1 hr32 c1 c2 eq' er' b2' b5
     go_wp2_with (go_big_skip)
     go_meet
     exact ⟨rfl,q',rfl,HD.out.2.1,HD.out.2.2⟩
    ·have d2:decide ((4294967296:Int)≤(r':Int))=false:=decide_eq_false (by omega)
     have HR':Hid (r' < 4294967296):=by show _<_;omega
     clear hH t1 t2 t3 hle hq1 hr32 c1 c2 eq' er' b2' b5
     go_wp2_with (go_big_skip)
     go_round
     case rel=>exact ⟨q',r',rfl,rfl,T2.out,HR'.out,T3.out,Nat.le_succ_of_le HLE.out⟩
     case measure=>simpa [intOf] using hlt.out
   ·have d1:decide ((4294967296:Int)≤(q:Int))=false:=decide_eq_false (by omega)
    have hpw:=rQ q v0
    have hrw:=OB r un1 (by show r<4294967296;omega) hu0.out
    have hrw0:=OC r (by show r<4294967296;omega)
    have epw:=Ld (show q<H32 by show q<4294967296;omega) B0.out
    obtain ⟨p,hp⟩:∃ p,bZ q v0=p:=⟨_,rfl⟩
    obtain ⟨a,ha⟩:∃ a,H32*r=a:=⟨_,rfl⟩
    obtain ⟨c,hc⟩:∃ c,H32*r+un1=c:=⟨_,rfl⟩
    rw [ha] at hrw0 hrw
    rw [ha] at hc
    rw [hc] at hrw
    rw [hp] at hpw epw
    by_cases c3:c<p
    ·have d3:decide (c<p)=true:=decide_eq_true c3
     have d3':decide ((c:Int)<(p:Int))=true:=decide_eq_true (by omega)
     obtain ⟨t1,t2,t3⟩:=hH.step hu0.out HLL.out (.inr (by rw [← epw,ha,hc];exact c3))
     have hle:q - 1≤4294967296:=by omega
     have w1:IntKind.u64.wrap ((q:Int) - 1)=((q - 1:Nat):Int):=by rw [show ((q - 1:Nat):Int)=(q:Int) - 1 by omega];exact IntWalk.u64_in _ (by omega)
     have hlt:Hid (q - 1<q):=by show _<_;omega
     obtain ⟨q',eq'⟩:∃ u,q - 1=u:=⟨_,rfl⟩
     rw [er',eq'] at t2
     rw [eq'] at w1 hle t3 hlt
     have T2:=hid t2
     have T3:=hid t3
     have HLE:=hid hle
     by_cases c2:4294967296≤r'
     ·have d2:decide ((4294967296:Int)≤(r':Int))=true:=decide_eq_true (by omega)
      have hd:=tY T2.out T3.out (yU HLE.out c2 B0.out) hu0.out HLL.out
      have HD:=hid hd
      clear hd hH t1 t2 t3 hle hq1 hr32 c1 c2 eq' er' b2' b5 hp epw ha hc c3
      go_wp2_with (go_big_skip)
      go_meet
      exact ⟨rfl,q',rfl,HD.out.2.1,HD.out.2.2⟩
     ·have d2:decide ((4294967296:Int)≤(r':Int))=false:=decide_eq_false (by omega)
      have HR':Hid (r' < 4294967296):=by show _<_;omega
      clear hH t1 t2 t3 hle hq1 hr32 c1 c2 eq' er' b2' b5 hp epw ha hc c3
      go_wp2_with (go_big_skip)
      go_round
      case rel=>exact ⟨q',r',rfl,rfl,T2.out,HR'.out,T3.out,Nat.le_succ_of_le HLE.out⟩
      case measure=>simpa [intOf] using hlt.out
    ·have d3:decide (c<p)=false:=decide_eq_false c3
     have d3':decide ((c:Int)<(p:Int))=false:=decide_eq_false (by omega)
     have hd:=tY HH.out.rest HH.out.big (by rw [← epw,ha,hc];omega) hu0.out HLL.out
     have HD:=hid hd
     clear hd hH hr32 hq1 er' b2' b5 hp epw ha hc c3 c1
     go_wp2_with (go_big_skip)
     go_meet
     exact ⟨rfl,q,rfl,HD.out.2.1,HD.out.2.2⟩
 case rest =>
  obtain ⟨rfl,q1,rfl,hq1,HQ1⟩:=hcut
  have hvp:0<v:=by have:=HN1.out;unfold B64 at this;omega
  have hq:=HQ1.out
  rw [EVV.out] at hq
  have hU1:(un32*H32+un1) % v<v:=Nat.mod_lt _ hvp
  have hmle:q1*v≤un32*H32+un1:=by omega
  have hA:=OA un32
  have hB:=Oz (bZ un32 H32) un1
  have hC:=rQ q1 v
  have hD:=AU (qg (bZ un32 H32) un1) (bZ q1 v)
  have hN2:=HN2.out
  rw [show bZ q1 v=q1*v % B64 from rfl,N9 hmle (by omega),show un32*H32+un1 - q1*v=(un32*H32+un1) % v by omega] at hD
  rw [← show bZ q1 v=q1*v % B64 from rfl] at hD
  obtain ⟨un21,e21⟩:∃ u,(un32*H32+un1) % v=u:=⟨_,rfl⟩
  obtain ⟨A,eA⟩:∃ u,bZ un32 H32=u:=⟨_,rfl⟩
  rw [eA] at hA hB hD
  obtain ⟨B,eB⟩:∃ u,qg A un1=u:=⟨_,rfl⟩
  rw [eB] at hB hD
  obtain ⟨C,eC⟩:∃ u,bZ q1 v=u:=⟨_,rfl⟩
  rw [eC] at hC hD
  rw [e21] at hD hU1 hq
  have l5:un21<v1*H32+v0:=by rw [EVV.out];exact hU1
  have HS:=Half.start (u0:=un0) (show v1<H32 from b2') HL2.out (show v0<H32 from b0) (show un0<H32 from b6) l5
  have hq00:=wY un21 v1 (by omega)
  have hm00:=rQ (un21 / v1) v1
  have hs00:=AU un21 (bZ (un21 / v1) v1)
  have er:pG un21 (bZ (un21 / v1) v1)=un21 % v1:=by
   have e:=HS.rest
   rw [EZ (by omega),N8 (by omega) (by omega)];omega
  rw [er] at hs00
  obtain ⟨q00,eq0⟩:∃ u,un21 / v1=u:=⟨_,rfl⟩
  obtain ⟨r00,er0⟩:∃ u,un21 % v1=u:=⟨_,rfl⟩
  obtain ⟨m00,em0⟩:∃ u,bZ (un21 / v1) v1=u:=⟨_,rfl⟩
  rw [eq0] at hq00 hm00 em0 hs00
  rw [em0] at hm00 hs00
  rw [er0] at hs00
  rw [eq0,er0] at HS
  have HS0:=hid HS
  have HQQ:=hid hq
  have HL5':=hid l5
  have Q1:=hid hq1
  have K21:=hid hU1
  have VP:=hid hvp
  clear HS er eq0 er0 em0 e21 eA eB eC hmle hq l5 hU1 hq1 HQ1 HL5 hN2 hvp
  go_upto_block 2 with fail
  clear hA hB hC hD hq00 hm00 hs00
  go_cut [18] (fun qv wx=>w=wx∧∃ q:Nat,qv=.int .u64 q∧q<4294967296∧Hid (q*(v1*H32+v0)+(un21*H32+un0) % (v1*H32+v0)=un21*H32+un0))
  case first =>
   have HSS:=HS0
   have HLL:=HL5'
   have hu0:Hid (un0<H32):=b6
   have B0:Hid (v0<H32):=b0
   clear HS0 HL5' b2 b0 cs0 hs h0 hh b6
   go_wp2
   go_loop [18,16] (fun qv rv=>∃ q r:Nat,qv=.int .u64 q∧rv=.int .u64 r∧Half un21 un0 v1 v0 q r) (fun qv _=>(intOf qv).toNat)
   case atStart=>exact ⟨_,_,rfl,rfl,HSS.out⟩
   case round =>
    obtain ⟨q,r,rfl,rfl,hH⟩:=hrel
    have hr32:r<4294967296:=hH.rlt
    have hq1:q≤4294967297:=hH.le
    have HH:=hid hH
    have w2:IntKind.u64.wrap ((r:Int)+(v1:Int))=((r+v1:Nat):Int):=by rw [show ((r+v1:Nat):Int)=(r:Int)+v1 by omega];exact IntWalk.u64_in _ (by omega)
    obtain ⟨r',er'⟩:∃ u,r+v1=u:=⟨_,rfl⟩
    rw [er'] at w2
    have ER:=hid er'
    by_cases c1:4294967296≤q
    ·obtain ⟨t1,t2,t3⟩:=hH.step hu0.out HLL.out (.inl c1)
     have hle:q - 1≤4294967296:=by omega
     have d1:decide ((4294967296:Int)≤(q:Int))=true:=decide_eq_true (by omega)
     have w1:IntKind.u64.wrap ((q:Int) - 1)=((q - 1:Nat):Int):=by rw [show ((q - 1:Nat):Int)=(q:Int) - 1 by omega];exact IntWalk.u64_in _ (by omega)
     have hlt:Hid (q - 1<q):=by show _<_;omega
     obtain ⟨q',eq'⟩:∃ u,q - 1=u:=⟨_,rfl⟩
     rw [er',eq'] at t2
     rw [eq'] at w1 hle t3 hlt
     have T2:=hid t2
     have T3:=hid t3
     have HLE:=hid hle
     by_cases c2:4294967296≤r'
     ·have d2:decide ((4294967296:Int)≤(r':Int))=true:=decide_eq_true (by omega)
      have hd:=tY T2.out T3.out (yU HLE.out c2 B0.out) hu0.out HLL.out
      have HD:=hid hd
      clear hd hH t1 t2 t3 hle hq1 hr32 c1 c2 eq' er' b2' b5
      go_wp2_with (go_big_skip)
      go_meet
      exact ⟨rfl,q',rfl,HD.out.2.1,HD.out.2.2⟩
     ·have d2:decide ((4294967296:Int)≤(r':Int))=false:=decide_eq_false (by omega)
      have HR':Hid (r' < 4294967296):=by show _<_;omega
      clear hH t1 t2 t3 hle hq1 hr32 c1 c2 eq' er' b2' b5
      go_wp2_with (go_big_skip)
      go_round
      case rel=>exact ⟨q',r',rfl,rfl,T2.out,HR'.out,T3.out,Nat.le_succ_of_le HLE.out⟩
      case measure=>simpa [intOf] using hlt.out
    ·have d1:decide ((4294967296:Int)≤(q:Int))=false:=decide_eq_false (by omega)
     have hpw:=rQ q v0
     have hrw:=OB r un0 (by show r<4294967296;omega) hu0.out
     have hrw0:=OC r (by show r<4294967296;omega)
     have epw:=Ld (show q<H32 by show q<4294967296;omega) B0.out
     obtain ⟨p,hp⟩:∃ p,bZ q v0=p:=⟨_,rfl⟩
     obtain ⟨a,ha⟩:∃ a,H32*r=a:=⟨_,rfl⟩
     obtain ⟨c,hc⟩:∃ c,H32*r+un0=c:=⟨_,rfl⟩
     rw [ha] at hrw0 hrw
     rw [ha] at hc
     rw [hc] at hrw
     rw [hp] at hpw epw
     by_cases c3:c<p
     ·have d3:decide (c<p)=true:=decide_eq_true c3
      have d3':decide ((c:Int)<(p:Int))=true:=decide_eq_true (by omega)
      obtain ⟨t1,t2,t3⟩:=hH.step hu0.out HLL.out (.inr (by rw [← epw,ha,hc];exact c3))
      have hle:q - 1≤4294967296:=by omega
      have w1:IntKind.u64.wrap ((q:Int) - 1)=((q - 1:Nat):Int):=by rw [show ((q - 1:Nat):Int)=(q:Int) - 1 by omega];exact IntWalk.u64_in _ (by omega)
      have hlt:Hid (q - 1<q):=by show _<_;omega
      obtain ⟨q',eq'⟩:∃ u,q - 1=u:=⟨_,rfl⟩
      rw [er',eq'] at t2
      rw [eq'] at w1 hle t3 hlt
      have T2:=hid t2
      have T3:=hid t3
      have HLE:=hid hle
      by_cases c2:4294967296≤r'
      ·have d2:decide ((4294967296:Int)≤(r':Int))=true:=decide_eq_true (by omega)
       have hd:=tY T2.out T3.out (yU HLE.out c2 B0.out) hu0.out HLL.out
       have HD:=hid hd
       clear hd hH t1 t2 t3 hle hq1 hr32 c1 c2 eq' er' b2' b5 hp epw ha hc c3
       go_wp2_with (go_big_skip)
       go_meet
       exact ⟨rfl,q',rfl,HD.out.2.1,HD.out.2.2⟩
      ·have d2:decide ((4294967296:Int)≤(r':Int))=false:=decide_eq_false (by omega)
       have HR':Hid (r' < 4294967296):=by show _<_;omega
       clear hH t1 t2 t3 hle hq1 hr32 c1 c2 eq' er' b2' b5 hp epw ha hc c3
       go_wp2_with (go_big_skip)
       go_round
       case rel=>exact ⟨q',r',rfl,rfl,T2.out,HR'.out,T3.out,Nat.le_succ_of_le HLE.out⟩
       case measure=>simpa [intOf] using hlt.out
     ·have d3:decide (c<p)=false:=decide_eq_false c3
      have d3':decide ((c:Int)<(p:Int))=false:=decide_eq_false (by omega)
      have hd:=tY HH.out.rest HH.out.big (by rw [← epw,ha,hc];omega) hu0.out HLL.out
      have HD:=hid hd
      clear hd hH hr32 hq1 er' b2' b5 hp epw ha hc c3 c1
      go_wp2_with (go_big_skip)
      go_meet
      exact ⟨rfl,q,rfl,HD.out.2.1,HD.out.2.2⟩
  case rest =>
   obtain ⟨rfl,q2,rfl,hq2,HQ2⟩:=hcut
   have hq2':=HQ2.out
   rw [EVV.out] at hq2'
   have hU2:(un21*H32+un0) % v<v:=Nat.mod_lt _ VP.out
   have hmle:q2*v≤un21*H32+un0:=by omega
   have hA:=OA un21
   have hB:=Oz (bZ un21 H32) un0
   have hC:=rQ q2 v
   have hD:=AU (qg (bZ un21 H32) un0) (bZ q2 v)
   have hN2:=HN2.out
   rw [show bZ q2 v=q2*v % B64 from rfl,N9 hmle (by omega),show un21*H32+un0 - q2*v=(un21*H32+un0) % v by omega] at hD
   rw [← show bZ q2 v=q2*v % B64 from rfl] at hD
   obtain ⟨rr,err⟩:∃ u,(un21*H32+un0) % v=u:=⟨_,rfl⟩
   obtain ⟨A,eA⟩:∃ u,bZ un21 H32=u:=⟨_,rfl⟩
   rw [eA] at hA hB hD
   obtain ⟨B,eB⟩:∃ u,qg A un0=u:=⟨_,rfl⟩
   rw [eB] at hB hD
   obtain ⟨C,eC⟩:∃ u,bZ q2 v=u:=⟨_,rfl⟩
   rw [eC] at hC hD
   rw [err] at hD hU2 hq2'
   have hQ:=Q1.out
   have hQ1:IntKind.u64.wrap ((q1:Int)*4294967296)=((q1*H32:Nat):Int):=by
    unfold H32
    rw [show ((q1*4294967296:Nat):Int)=(q1:Int)*4294967296 by omega]
    exact IntWalk.u64_in _ (by omega)
   have hQ2:IntKind.u64.wrap (((q1*H32:Nat):Int)+(q2:Int))=((q1*H32+q2:Nat):Int):=by
    unfold H32
    rw [show ((q1*4294967296:Nat):Int)+(q2:Int)=((q1*4294967296+q2:Nat):Int) by omega]
    exact IntWalk.u64_in _ (by omega)
   have hfin:=halves (hi:=hi) (lo:=lo) (y:=y) (s:=s) (q1:=q1) (q0:=q2) (un32:=un32) (un1:=un1) (un0:=un0) (un21:=un21) (r:=rr) (by omega) (by rw [EUN.out];exact KK.out) (by rw [EV.out];exact HQQ.out) (by rw [EV.out];exact hq2') (by rw [EV.out];exact hU2)
   have hsh:=Gt s rr
   obtain ⟨a1,ea1⟩:∃ u,q1*H32=u:=⟨_,rfl⟩
   obtain ⟨qq,eqq⟩:∃ u,q1*H32+q2=u:=⟨_,rfl⟩
   obtain ⟨rs,ers⟩:∃ u,rr / 2 ^ s=u:=⟨_,rfl⟩
   rw [ea1] at hQ1 hQ2 eqq
   rw [eqq] at hQ2
   rw [ea1,eqq,ers] at hfin
   rw [ers] at hsh
   have HF:=hid hfin
   clear hfin eqq ers ea1 hq2 hq2' hU2 hmle hN2 err eA eB eC hQ b2 b0 b2' b5 b6 h0 hh
   go_wp2
   go_ret2
   refine ⟨?_,0,rfl⟩
   show Ending.returned (.tuple #[.int .u64 (qq:Int),.int .u64 (rs:Int)])=_
   rw [HF.out.1,HF.out.2]
theorem AZ (hi lo y:Nat) (hh:hi<y) (hl:lo<B64) (hy:y<B64) (w:World) :
  Calls Tryz.prog 131 #[.int .u64 (hi:Int),.int .u64 (lo:Int),.int .u64 (y:Int)] w (Bf w hi lo y):=by
 rcases Nat.eq_zero_or_pos hi with h0 | h0
 ·subst h0;exact OO lo y hh hl w
 ·exact OQ hi lo y h0 hh hl hy w
end
end Go.Proofs.YtancpaiaoamjlaaGreatDoor
