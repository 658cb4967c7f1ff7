/- What the proof rests on, part 21. -/
import Derived.Test.YtnmlkobogofadaaGreatDoorP20
import Derived.Test.YtnmlkobogofadaaGreatDoorP10
import Derived.Test.YtnmlkobogofadaaGreatDoorP11
import Derived.Test.YtnmlkobogofadaaGreatDoorP02
import Derived.Test.YtnmlkobogofadaaGreatDoorRows
import Derived.ProofKit
import Derived.Handy
import Derived.Lay
import Derived.SevenTiedAt
import Derived.Lib.SmallJoins
import Derived.Stop.LaidErr
import Derived.Shelf.Vars
namespace Go.Proofs.YtnmlkobogofadaaGreatDoor
set_option maxRecDepth 100000
set_option maxHeartbeats 80000000
section
open Go.RowKit Go.Sort
attribute [local go_sem] takes dF dG dD
def dv (l:List UInt8):Nat:=l.foldl (fun a x=>a*10+(x.toNat - 48)) 0
theorem Q5 (l:List UInt8) (x:UInt8):dv (l ++ [x])=dv l*10+(x.toNat - 48):=by simp [dv]
theorem SE (r:List UInt8):∀ a:Nat,r.foldl (fun a x=>a*10+(x.toNat - 48)) a=a*10 ^ r.length+dv r:=by
 unfold dv
 induction r with
 | nil=>intro a;simp
 | cons x r ih =>
  intro a
  rw [List.foldl_cons,ih,List.foldl_cons,ih (0*10+(x.toNat - 48)),List.length_cons,Nat.pow_succ]
  grind
theorem Hf (l r:List UInt8):dv (l ++ r)=dv l*10 ^ r.length+dv r:=by
 conv=>lhs;unfold dv
 rw [List.foldl_append]
 exact SE r (dv l)
theorem ql (l:List UInt8) (h:l.all bY=true):dv l<10 ^ l.length:=by
 induction l with
 | nil=>decide
 | cons x l ih =>
  simp only [List.all_cons,Bool.and_eq_true] at h
  have h1:=ih h.2
  have h2:=h.1
  simp only [bY,decide_eq_true_eq] at h2
  have h3:dv (x :: l)=(x.toNat - 48)*10 ^ l.length+dv l:=by
   have:=Hf [x] l
   rw [List.singleton_append] at this
   rw [this]
   show (0*10+(x.toNat - 48))*_+_=_
   rw [Nat.zero_mul,Nat.zero_add]
  have h4:(x.toNat - 48)*10 ^ l.length≤9*10 ^ l.length:=Nat.mul_le_mul_right _ (by omega)
  rw [h3,List.length_cons,Nat.pow_succ]
  omega
theorem JO (r:List UInt8) (j:Nat) (hj:j<r.length) (h:r.all bY=true):dv (r.take (j+1))=dv (r.take j)*10+(r[j].toNat - 48)∧48≤r[j].toNat∧r[j].toNat≤57∧dv (r.take j)<10 ^ j:=by
 rw [List.take_succ_eq_append_getElem hj,Q5]
 have h1:=List.all_eq_true.1 h _ (List.getElem_mem hj)
 simp only [bY,decide_eq_true_eq] at h1
 refine ⟨rfl,h1.1,h1.2,?_⟩
 have:=ql (r.take j) (by rw [List.all_eq_true];intro y hy;exact List.all_eq_true.1 h y (List.mem_of_mem_take hy))
 rwa [List.length_take,Nat.min_eq_left (by omega)] at this
theorem lU {m K:Nat} (h:m<K):10 ^ m<B64 ^ K:=
 Nat.lt_of_lt_of_le (Nat.pow_lt_pow_right (by decide) h) (Nat.pow_le_pow_left (by unfold B64;decide) K)
theorem OH {r:List UInt8} (h:r.all bY=true) (n:Nat):(r.take n).all bY=true:=by
 rw [List.all_eq_true];intro y hy;exact List.all_eq_true.1 h y (List.mem_of_mem_take hy)
theorem extract_drop (r:List UInt8) (j:Nat):(⟨r.toArray⟩:ByteArray).extract j r.length=⟨(r.drop j).toArray⟩:=by
 apply ByteArray.ext
 rw [ByteArray.data_extract]
 simp [List.take_of_length_le]
def strLen:Value→Nat
 | .string s=>s.size
 | _=>0
theorem uj (l:List UInt8) (w:World) (hd:l.all bY=true) (hl:l.length≤1000000):Calls Tryz.prog 108 #[.string ⟨l.toArray⟩] w (aW w (dv l)):=by
 have HD:=hid hd
 clear hd
 go_enter Tryz.func108,Tryz.ntmps108
 go_wp2_with fail
 have hS0:=hid (((St.start w).alloc' (w.heap.size) (by simp) 27 [.int .u64 0,.slice none 0 0]).alloc' (w.heap.size+1) (by simp) 27 [.int .u64 0,.slice none 0 0])
 obtain ⟨W0,hW0⟩:=aP hS0
 rw [hW0] at hS0 ⊢
 clear hW0
 go_wp2_with fail
 go_loopw [0] (fun sv wr=>∃ (t r:List UInt8) (x1:Int) (p1:Option Addr) (l1 q1:Nat),sv=.string ⟨r.toArray⟩∧l=t ++ r∧St w [⟨w.heap.size+1,27,[.int .u64 x1,.slice p1 l1 q1]⟩,⟨w.heap.size,27,[.int .u64 0,.slice none 0 0]⟩] [.m (.int .u64 x1) (.slice p1 l1 q1) (dv t)] wr) (fun sv _=>strLen sv)
 case atStart=>exact ⟨[],l,0,none,0,0,rfl,rfl,hS0.out.fact (.m (.int .u64 0) (.slice none 0 0) (dv [])) (lK _ 0 (by decide))⟩
 case round =>
  clear hS0
  obtain ⟨t,r,x1,p1,l1,q1,rfl,htr,hSt⟩:=hrel
  have HS:=hid hSt
  have HTR:=hid htr
  clear hSt
  have hrl:r.length≤1000000:=by rw [htr,List.length_append] at hl;omega
  have HDr:=hid (show r.all bY=true by have:=HD.out;rw [htr,List.all_append,Bool.and_eq_true] at this;exact this.2)
  clear htr
  by_cases hlt:0<r.length
  ·go_wp2_with fail
   obtain ⟨n,hn,hn19,hnr,hn1⟩:∃ n:Nat,min (19:Int) (r.length:Int)=(n:Int)∧n≤19∧n≤r.length∧1≤n:=⟨min 19 r.length,by omega,by omega,by omega,by omega⟩
   rw [hn]
   clear hn
   go_loop [5,14] (fun pv iv=>∃ j:Nat,iv=.int .i64 (j:Int)∧j≤n∧pv=.int .u64 ((dv (r.take j):Nat):Int)) (fun _ iv=>n - (intOf iv).toNat)
   case atStart=>exact ⟨0,rfl,Nat.zero_le _,rfl⟩
   case round =>
    obtain ⟨j,rfl,hj,rfl⟩:=hrel
    by_cases hlt2:j<n
    ·have hjr:j<r.length:=by omega
     have ht:=JO r j hjr HDr.out
     obtain ⟨V,hV⟩:∃ V,dv (r.take j)=V:=⟨_,rfl⟩
     obtain ⟨x,hx⟩:∃ x,r[j]=x:=⟨_,rfl⟩
     have hp:(10:Nat) ^ j≤10 ^ 18:=Nat.pow_le_pow_right (by decide) (by omega)
     have hi2:((⟨r.toArray⟩:ByteArray)[j]'(by simpa [ByteArray.size] using hjr)).toNat=x.toNat:=by rw [← hx];rfl
     rw [hV,hx] at ht
     obtain ⟨ht1,ht2,ht3,ht4⟩:=ht
     have hV18:V<1000000000000000000:=by omega
     have HT1:=hid ht1
     rw [hV]
     clear ht1 ht4 hp hx hV
     obtain ⟨X,hX⟩:∃ X,x.toNat=X:=⟨_,rfl⟩
     rw [hX] at hi2 ht2 ht3 HT1
     clear hX
     have hcj:(j:Int)<(n:Int):=by omega
     go_wp2_with fail
     exact ⟨⟨j+1,by simp,by omega,by rw [HT1.out];congr 1;omega⟩,by simp [intOf];omega⟩
    ·obtain rfl:j=n:=by omega
     have hcj:¬ ((j:Int)<(j:Int)):=by omega
     obtain ⟨KK,hKK⟩:∃ KK,KK=1000020:=⟨_,rfl⟩
     have hKKb:KK≤17179869184:=by omega
     have hjl:t.length+r.length≤1000000:=by have:=congrArg List.length HTR.out;rw [List.length_append] at this;omega
     have hb1:dv t<10 ^ t.length:=ql t (by have:=HD.out;rw [HTR.out,List.all_append,Bool.and_eq_true] at this;exact this.1)
     have hb2:dv (r.take j)<10 ^ j:=by have:=ql (r.take j) (OH HDr.out j);rwa [List.length_take,Nat.min_eq_left hnr] at this
     have HK1:=hid (Nat.lt_trans hb1 (lU (K:=KK) (by omega)))
     have HK2:=hid (lU (m:=j) (K:=KK) (by omega))
     have HK3:=hid (show dv t*10 ^ j<B64 ^ KK by have h1:=lU (m:=t.length+j) (K:=KK) (by omega);rw [Nat.pow_add] at h1;exact Nat.lt_of_le_of_lt (Nat.mul_le_mul_right _ (Nat.le_of_lt hb1)) h1)
     have HV:=hid (show dv (r.take j)<B64 by have h1:(10:Nat) ^ j≤10 ^ 19:=Nat.pow_le_pow_right (by decide) hn19;exact Nat.lt_of_lt_of_le (Nat.lt_of_lt_of_le hb2 h1) (by decide))
     have HTT:=hid (show dv t*10 ^ j+dv (r.take j)=dv (t ++ r.take j) by rw [Hf,List.length_take,Nat.min_eq_left hnr])
     have HVK:=hid (show dv (r.take j)<B64 ^ KK from Nat.lt_trans hb2 (lU (by omega)))
     clear hb1 hb2 hKK
     obtain ⟨V,hV⟩:∃ V,dv (r.take j)=V:=⟨_,rfl⟩
     rw [hV] at HV HVK HTT ⊢
     clear hV
     go_wp2_with fail
     have LM0:=hid (fun (W:World) (h:Below wr.heap.size wr W)=>((HS.out.call h).f2 0 (w.heap.size+1) 27 (.int .u64 x1) (.slice p1 l1 q1) rfl).1)
     refine bC 7 [⟨[],[0]⟩,⟨[],[1]⟩,⟨[1],[2]⟩,⟨[0,2],[3]⟩,⟨[],[4]⟩,⟨[4],[5]⟩,⟨[3,5],[6]⟩]
      [oE (.agg #[.int .u64 x1,.slice p1 l1 q1]),oE (.int .i64 (j:Int)),one (aB (10 ^ j)),one (aB (dv t*10 ^ j)),oE (.int .u64 (V:Int)),oE (.agg #[.int .u64 (V:Int),.slice none 0 0]),one (aB (dv t*10 ^ j+V))]
      (fun _ W=>Below wr.heap.size wr W) (by kernel_rfl) (by kernel_rfl) ?hTW1 ?hZW1 ?hOW1 ?hEW1
     case hZW1=>exact (Below.refl _ _).drew
     case hTW1 =>
      simp only [List.forall_mem_cons,List.not_mem_nil,false_imp_iff,implies_true,and_true]
      exact ⟨bE,bE,aj aN,aj aN,bE,bE,aj aN⟩
     case hOW1 =>
      intro u
      simp only [List.take_succ_cons,List.take_zero,aC]
      repeat' (first | with_reducible exact aV | with_reducible refine aX ?_ ?_)
      ·intro W hS hF K hK
       have hcS:=LM0.out W hS
       go_simp
       exact hK _ _ (.refl _ _) hS rfl
      ·intro W hS hF K hK
       go_simp
       exact hK _ _ (.refl _ _) hS rfl
      ·intro W hS hF K hK
       have h1:u 1=.int .i64 (j:Int):=hF.1
       clear hF
       go_simp
       refine (D9 j KK _ HK2.out (by omega)).mono ?_
       rintro e wA ⟨c,d,rfl,hm,hBA⟩
       obtain ⟨xx,pp,ll,qq,rfl,rfl⟩:=hm.shape
       exact ⟨_,rfl,hK _ _ hBA (hS.trans (hBA.mono hS.size)) ⟨_,_,_,_,rfl,hm⟩⟩
      ·intro W hS hF K hK
       have h0:u 0=.agg #[.int .u64 x1,.slice p1 l1 q1]:=hF.1
       obtain ⟨x2,p2,l2,q2,h2,m2⟩:aB (10 ^ j) (u 2) W:=hF.2.1
       have sH:=hid (HS.out.call hS)
       clear hF
       go_simp
       refine (jr (dv t) (10 ^ j) KK _ _ _ _ _ (sH.out.get (f:=.m (.int .u64 x1) (.slice p1 l1 q1) (dv t)) 0 rfl) m2 (by omega) HK1.out HK2.out).mono ?_
       rintro e wA ⟨c,d,rfl,hm,hBA⟩
       obtain ⟨xx,pp,ll,qq,rfl,rfl⟩:=hm.shape
       exact ⟨_,rfl,hK _ _ hBA (hS.trans (hBA.mono hS.size)) ⟨_,_,_,_,rfl,hm⟩⟩
      ·intro W hS hF K hK
       go_simp
       exact hK _ _ (.refl _ _) hS rfl
      ·intro W hS hF K hK
       have h4:u 4=.int .u64 (V:Int):=hF.1
       clear hF
       go_simp
       exact hK _ _ (.refl _ _) hS rfl
      ·intro W hS hF K hK
       obtain ⟨x3,p3,l3,q3,h3,m3⟩:aB (dv t*10 ^ j) (u 3) W:=hF.1
       have h5:u 5=.agg #[.int .u64 (V:Int),.slice none 0 0]:=hF.2.1
       clear hF
       go_simp
       refine (tu (dv t*10 ^ j) V KK _ _ _ _ _ m3 (lK _ V HV.out) (by omega) HK3.out HVK.out).mono ?_
       rintro e wA ⟨c,d,rfl,hm,hBA⟩
       obtain ⟨xx,pp,ll,qq,rfl,rfl⟩:=hm.shape
       exact ⟨_,rfl,hK _ _ hBA (hS.trans (hBA.mono hS.size)) ⟨_,_,_,_,rfl,hm⟩⟩
     case hEW1 =>
      intro u W1 hS hF
      have hS1:=hid (HS.out.call hS)
      obtain ⟨x6,p6,l6,q6,e6,m6⟩:aB (dv t*10 ^ j+V) (u 6) W1:=hF.2.2.2.2.2.2.1
      clear hF hS
      rw [HTT.out] at m6
      have hS2:=hid (hS1.out.fact (.m (.int .u64 x6) (.slice p6 l6 q6) (dv (t ++ r.take j))) m6)
      clear hS1 m6
      obtain ⟨⟨cS0,cS1⟩,fS0,fS1⟩:=hS2.out.f2 0 (w.heap.size+1) 27 (.int .u64 x1) (.slice p1 l1 q1) rfl
      simp only [List.take_succ_cons,List.take_zero,aC,List.drop_succ_cons,List.drop_zero]
      go_wp2_with fail
      clear cS0 cS1 fS0 fS1
      have hJ:=hid ((((hS2.out).store (b:=⟨w.heap.size+1,27,[.int .u64 x1,.slice p1 l1 q1]⟩) 0 0 (.int .u64 x6) rfl rfl).store (b:=⟨w.heap.size+1,27,[.int .u64 x6,.slice p1 l1 q1]⟩) 0 1 (.slice p6 l6 q6) rfl rfl).as [⟨w.heap.size+1,27,[.int .u64 x6,.slice p6 l6 q6]⟩,⟨w.heap.size,27,[.int .u64 0,.slice none 0 0]⟩] rfl)
      rw [extract_drop]
      exact ⟨⟨t ++ r.take j,r.drop j,x6,p6,l6,q6,rfl,by rw [List.append_assoc,List.take_append_drop];exact HTR.out,⟨hJ.out.bel,hJ.out.box,(hJ.out.get (f:=.m (.int .u64 x6) (.slice p6 l6 q6) (dv (t ++ r.take j))) 0 rfl),trivial⟩⟩,by simp only [strLen,ByteArray.size,List.size_toArray,List.length_drop];omega⟩
  ·have h0:r=[]:=List.length_eq_zero_iff.1 (by omega)
   subst h0
   have hlt0:t=l:=by have:=HTR.out;rw [List.append_nil] at this;exact this.symm
   rw [hlt0] at HS
   clear hlt0 HTR HDr hlt hrl
   obtain ⟨⟨cS0,cS1⟩,fS0,fS1⟩:=HS.out.f2 0 (w.heap.size+1) 27 (.int .u64 x1) (.slice p1 l1 q1) rfl
   obtain ⟨⟨cR0,cR1⟩,fR0,fR1⟩:=HS.out.f2 1 w.heap.size 27 (.int .u64 0) (.slice none 0 0) rfl
   have hS1:=hid ((((HS.out).store (b:=⟨w.heap.size,27,[.int .u64 0,.slice none 0 0]⟩) 1 0 (.int .u64 x1) rfl rfl).store (b:=⟨w.heap.size,27,[.int .u64 x1,.slice none 0 0]⟩) 1 1 (.slice p1 l1 q1) rfl rfl).as [⟨w.heap.size+1,27,[.int .u64 x1,.slice p1 l1 q1]⟩,⟨w.heap.size,27,[.int .u64 x1,.slice p1 l1 q1]⟩] rfl)
   go_wp2_with fail
   clear cS0 cS1 fS0 fS1 cR0 cR1 fR0 fR1
   obtain ⟨⟨zR0,zR1⟩,-⟩:=hS1.out.f2 1 w.heap.size 27 (.int .u64 x1) (.slice p1 l1 q1) rfl
   exact bodyPost_ret (v:=.agg #[.int .u64 x1,.slice p1 l1 q1]) (by simp [results,Tryz.results108,go_sem,zR0,zR1]) rfl ⟨_,_,rfl,(hS1.out.get (f:=.m (.int .u64 x1) (.slice p1 l1 q1) (dv l)) 0 rfl),hS1.out.bel⟩
end
section
open Go.RowKit Go.Sort
def lZ (w:World):Prop:=0<w.heap.size∧∃ m:Int,w.cell? ⟨0,0,none⟩=some (.int .i64 m)
theorem lZ.below {B:Nat} {w w':World} (h:lZ w) (hb:Below B w w') (hB:w.heap.size≤B):lZ w':=by
 obtain ⟨h1,m,h2⟩:=h
 exact ⟨Nat.lt_of_lt_of_le h1 hb.size,m,(hb.cell (p:=⟨0,0,none⟩) (Nat.lt_of_lt_of_le h1 hB)).trans h2⟩
structure Env (w:World):Prop where
 tz:Tab w
 ten:dQ w
 max:lZ w
theorem Env.below {B:Nat} {w w':World} (h:Env w) (hb:Below B w w') (hB:w.heap.size≤B):Env w':=⟨h.tz.below hb hB,h.ten.below hb hB,h.max.below hb hB⟩
theorem Jf (l:List UInt8) (w:World):Calls Tryz.prog 104 #[.string ⟨l.toArray⟩,.string ⟨#[45]⟩] w
  fun e w'=>e=.returned (.tuple #[.string ⟨(Lib.trimPrefix l [45]).toArray⟩,.bool (Lib.hasPrefix l [45])])∧Below w.heap.size w w':=by
 refine (Tryz.strings_CutPrefix ⟨l.toArray⟩ ⟨#[45]⟩ w).mono ?_
 rintro e w' ⟨rfl,rfl⟩
 exact ⟨by simp,Below.refl _ _⟩
theorem Ar (l:List UInt8) (c:UInt8) (w:World) (hl:l.length≤1000000) (hM:lZ w):Calls Tryz.prog 105 #[.string ⟨l.toArray⟩,.string ⟨#[c]⟩] w
  fun e w'=>e=.returned (.tuple #[.string ⟨(Lib.cut l [c]).1.toArray⟩,.string ⟨(Lib.cut l [c]).2.1.toArray⟩,.bool (Lib.cut l [c]).2.2])∧Below w.heap.size w w':=by
 obtain ⟨-,m,hm⟩:=hM
 refine (Tryz.strings_Cut ⟨l.toArray⟩ ⟨#[c]⟩ m w (by simp [ByteArray.size];omega) hm).mono ?_
 rintro e w' ⟨rfl,n,rfl⟩
 exact ⟨by simp,below_drewN _ _⟩
end
section
open Go.ChangeShapes Go.WideShapes Go.ChangeAt Go.RowKit Go.Joins
def rW:List (String×DataW Unit):=[("math/bits.deBruijn32tab",Rows.laid_math_bits_deBruijn32tab),("math/bits.deBruijn64tab",Rows.laid_math_bits_deBruijn64tab),("internal/strconv.uint64pow10",Rows.laid_internal_strconv_uint64pow10)]
theorem Qr:ownKnob Tryz.prog.godebug=none:=by kernel_rfl
theorem cell_lt {W:World} {b o:Nat} {v:Value} (h:W.cell? ⟨b,o,none⟩=some v):b<W.heap.size:=by
 rcases Nat.lt_or_ge b W.heap.size with hlt | hge
 ·exact hlt
 ·unfold World.cell? at h;simp only [Array.getElem?_eq_none hge] at h;cases h
theorem O9 {W:World} (hL:laidMetH Tryz.prog rW W) (hS:W.ShapedOpen Tryz.prog):Env W:=by
 rw [MakeChecks.laidMetH_plain _ _ _ (by kernel_rfl)] at hL
 have t64:Lib.TabIs Tryz.prog W "math/bits.deBruijn64tab" .u8 (Lib.deBruijn64tab.map fun (n:Nat)=>(n:Int)):=
  Lib.tabIs_of_head (g:=1) (t:=257) (e:=5) (n:=64) (by kernel_rfl) (by kernel_rfl) Tryz.underlying257 Tryz.underlying5 (by kernel_rfl) (by kernel_rfl) (show laidMet Tryz.prog ((_,Lib.tabData .u8 _) :: _) W from Go.laidMet.tail hL)
 have t10:Lib.TabIs Tryz.prog W "internal/strconv.uint64pow10" .u64 Lib.pow10Tab:=
  Lib.tabIs_of_head (g:=4) (t:=277) (e:=23) (n:=20) (by kernel_rfl) (by kernel_rfl) Tryz.underlying277 Tryz.underlying23 (by kernel_rfl) (by kernel_rfl) (show laidMet Tryz.prog ((_,Lib.tabData .u64 _) :: _) W from Go.laidMet.tail (Go.laidMet.tail hL))
 have c64:TabAt 1 Lib.deBruijn64tab W:=fun j hj=>by
  have:=t64.cell (g:=1) (by kernel_rfl) j (by simpa using hj)
  rw [this]
  simp [List.getD,hj]
 have c10:=t10.cell (g:=4) (by kernel_rfl) 0 (by decide)
 obtain ⟨m,hm⟩:=cell_of_shapedOpen_int (g:=0) (t:=3) (zero:=#[.int .i64 0]) (k:=.i64) hS (of_decide_eq_true (by kernel_rfl)) (by kernel_rfl) rfl (by kernel_rfl) (by kernel_rfl) Tryz.underlying3
 exact ⟨⟨cell_lt (c64 0 (by decide)),c64⟩,⟨cell_lt c10,t10⟩,⟨cell_lt hm,m,hm⟩⟩
section
variable {H:Type} {enc:TypeId×Value→H}
theorem MQ {C:Checked} {os:Os} {f:FuncId} {fn:Func} {s:ChangeSpec} {X:World→Prop} (hX:∀ w w':World,w.heap=w'.heap→X w→X w')
  (own:ownKnob C.prog.godebug=none) (started:os.Started) (noInit:C.prog.inits.idxOf? f=none) (hfn:C.prog.funcs[f]? = some fn)
  (witness:∃ (w:World) (tape:Tape) (i:Input),w.os=os∧(w.forCall tape i).Shaped C.prog∧i.vars=[]∧Input.okWide C.prog (w.forCall tape i) .any w.heap.size f i ∧
   ((s.pre enc C.prog fn [] false (w.forCall tape i).memory i.args∧X (w.forCall tape i).memory)∧sizedMet enc C.prog fn (OpenSpec.ofChange s) false (w.forCall tape i).memory i.args)∧({}:Assume).holds C.prog (lone (Frame.enter C.prog f i.args .normal) [] (w.forCall tape i)))
  (contract:∀ (W:World) (base:Nat) (args:Array Value) (ds gs:List (DataW H)) (before:List MemPlace),
   (∀ (j:Nat) t v,fn.params[j]? = some t→args[j]? = some v→Value.okWide C.prog W .any base t v) →
   DataW.Whole enc C.prog fn.params.toList s.vars false W args.toList ds gs before→W.ShapedOpen C.prog→X W →
   Calls C.prog f args W fun e W'=>∃ v,e=.returned v∧s.post enc C.prog fn false true false false W args v W') :
  ReturnsInHanded {} C os f .any (fun w args=>(s.pre enc C.prog fn [] false w args∧X w)∧sizedMet enc C.prog fn (OpenSpec.ofChange s) false w args) (s.post enc C.prog fn false true false false):=by
 refine returnsInHanded_of_calls own started noInit witness ?_
 intro w tape i _ hsh _ hok hpre _
 obtain ⟨_,_,_,fn',hfn',_,_,_,_,hval⟩:=hok
 have e:fn' = fn:=Option.some.inj (hfn'.symm.trans hfn)
 subst e
 obtain ⟨⟨⟨ds,gs,before,hw,hc⟩,hx⟩,hz⟩:=hpre
 have hw':=DataW.Whole.of_heap (w':=w.forCall tape i) (by rfl) hw
 refine (contract (w.forCall tape i) w.heap.size i.args ds gs before hval hw' hsh (hX _ _ (by rfl) hx)).mono fun e W' ⟨v,he,hp⟩=>?_
 subst he
 exact ChangeSpec.post_blind hp
theorem uf {n:Int} (h:(Lit.int .i64 n).wf=true):-9223372036854775808≤n∧n≤9223372036854775807:=by simpa [Lit.wf,IntKind.min,IntKind.max,IntKind.signed,IntKind.bits] using h
theorem zU {n:Int} (h:(Lit.int .u8 n).wf=true):0≤n∧n≤255:=by simpa [Lit.wf,IntKind.min,IntKind.max,IntKind.signed,IntKind.bits] using h
structure NumIn (n d:Int) (b:Nat):Prop where
 wn:(Lit.int .i64 n).wf=true
 wd:(Lit.int .i64 d).wf=true
 wb:(Lit.int .u8 (b:Int)).wf=true
theorem NumIn.n1 {n d:Int} {b:Nat} (h:NumIn n d b):-9223372036854775808≤n:=(uf h.wn).1
theorem NumIn.n2 {n d:Int} {b:Nat} (h:NumIn n d b):n≤9223372036854775807:=(uf h.wn).2
theorem NumIn.d1 {n d:Int} {b:Nat} (h:NumIn n d b):-9223372036854775808≤d:=(uf h.wd).1
theorem NumIn.d2 {n d:Int} {b:Nat} (h:NumIn n d b):d≤9223372036854775807:=(uf h.wd).2
theorem NumIn.b1 {n d:Int} {b:Nat} (h:NumIn n d b):b<256:=by have:=(zU h.wb).2;omega
theorem numCells:Tryz.prog.cellsOf 46=3:=by kernel_rfl
theorem QE {W:World} {base:Nat} {v:Value} {x:DataW H} {p:List MemPlace} (hv:Value.okWide Tryz.prog W .any base 46 v) (h:DataW.Trod enc Tryz.prog W 0 (fun _=>true) true 46 v x p) :
  ∃ (n d:Int) (b:Nat),v=.agg #[.int .i64 n,.int .i64 d,.int .u8 (b:Int)]∧x=.agg [.lit (.int .i64 n),.lit (.int .i64 d),.lit (.int .u8 (b:Int))]∧p=[]∧NumIn n d b:=by
 obtain ⟨c0,c1,c2,y0,y1,y2,m,rfl,rfl,rfl,hy0,hy1,hy2⟩:=open_agg3 Tryz.underlying46 (by kernel_rfl) numCells hv h
 obtain ⟨n,e0,rfl,wn⟩:=DataW.trod_int Tryz.underlying2 hy0
 obtain ⟨d,e1,rfl,wd⟩:=DataW.trod_int Tryz.underlying2 hy1
 obtain ⟨b,e2,rfl,wb⟩:=DataW.trod_int Tryz.underlying5 hy2
 simp at e0 e1 e2
 subst e0 e1 e2
 have:=zU wb
 obtain ⟨k,rfl⟩:∃ k:Nat,b=(k:Int):=⟨b.toNat,by omega⟩
 exact ⟨n,d,k,rfl,rfl,rfl,wn,wd,wb⟩
theorem AV {W:World} {base:Nat} {sp:Nat→Bool} {held:Bool} {n d:Int} {b:Nat} (h:NumIn n d b):DataW.Trod enc Tryz.prog W base sp held 46 (.agg #[.int .i64 n,.int .i64 d,.int .u8 (b:Int)]) (.agg [.lit (.int .i64 n),.lit (.int .i64 d),.lit (.int .u8 (b:Int))]) []:=by
 have g0:∃ m,DataW.trod enc Tryz.prog W base sp held m 2 [.int .i64 n]=some (.lit (.int .i64 n),[]):=⟨1,by simp [DataW.trod,Tryz.underlying2,h.wn]⟩
 have g1:∃ m,DataW.trod enc Tryz.prog W base sp held m 2 [.int .i64 d]=some (.lit (.int .i64 d),[]):=⟨1,by simp [DataW.trod,Tryz.underlying2,h.wd]⟩
 have g2:∃ m,DataW.trod enc Tryz.prog W base sp held m 5 [.int .u8 (b:Int)]=some (.lit (.int .u8 (b:Int)),[]):=⟨1,by simp [DataW.trod,Tryz.underlying5,h.wb]⟩
 simpa using shut_agg3 (enc:=enc) (w:=W) (base:=base) (spare:=sp) (held:=held) Tryz.underlying46 (by kernel_rfl) numCells g0 g1 g2
end
end
namespace Rx
open Go.RowKit
variable {P:Program}
def lexB:Nat→List Oper→Bool
 | _,[]=>true
 | i,o :: r=>(o.after.toList.all fun e=>!Region.binds .any e || decide (e.on<i)) && lexB (i+1) r
theorem ng:∀ {l:List Oper} {k i:Nat} {o:Oper},lexB k l=true→l[i]? = some o→∀ e∈o.after,Region.binds .any e=true→e.on<k+i
 | [],_,_,_,_,h=>by simp at h
 | x :: r,k,0,o,hb,h=>by
  simp only [List.getElem?_cons_zero,Option.some.injEq] at h
  subst h
  simp only [lexB,Bool.and_eq_true,List.all_eq_true,Bool.or_eq_true,decide_eq_true_eq] at hb
  intro e he hbi
  rcases hb.1 e (by simpa using he) with h2 | h2
  ·simp [hbi] at h2
  ·omega
 | x :: r,k,i+1,o,hb,h=>by
  simp only [lexB,Bool.and_eq_true] at hb
  intro e he hbi
  have:=ng hb.2 (by simpa using h) e he hbi
  omega
def more (dn:Nat→Bool) (i:Nat):Nat→Bool:=fun k=>dn k || k == i
def Closed (l:List Oper) (dn:Nat→Bool):Prop:=∀ j oj,l[j]? = some oj→dn j=true→∀ e∈oj.after,Region.binds .any e=true→dn e.on=true
def Step (P:Program) (l:List Oper) (J:(Nat→Bool)→Act→World→Prop):Prop:=
 ∀ (dn:Nat→Bool) a W i o,l[i]? = some o→dn i=false→(∀ e∈o.after,Region.binds .any e=true→dn e.on=true)→Closed l dn→J dn a W →
  if Region.wanted o (yielded l.toArray a.tmps) then takes P o a W (fun v W'=>J (more dn i) (a.put o.dst v) W') else J (more dn i) (a.put o.dst undef) W
theorem Cc {l:List Oper} {J:(Nat→Bool)→Act→World→Prop} {Q:Exit→Act→World→Prop} (hs:Step P l J) {dn:Nat→Bool} {a:Act} {W:World} {i:Nat} {o:Oper} (ho:l[i]? = some o) (hd:dn i=false)
  (hw:∀ e∈o.after,Region.binds .any e=true→dn e.on=true) (hc:Closed l dn) (hJ:J dn a W) {K:Act→World→Prop} (hK:∀ a' W',J (more dn i) a' W'→K a' W'):wpOp P l.toArray Q i K a W:=by
 have h:=hs dn a W i o ho hd hw hc hJ
 unfold wpOp
 rw [show l.toArray[i]? = some o by simpa using ho]
 simp only
 split
 ·rename_i hh
  rw [if_pos hh] at h
  exact .inl (ug h fun v w' h'=>hK _ _ h')
 ·rename_i hh
  rw [if_neg hh] at h
  exact hK _ _ h
theorem Closed.more {l:List Oper} {dn:Nat→Bool} (h:Closed l dn) {i:Nat} {o:Oper} (ho:l[i]? = some o) (hw:∀ e∈o.after,Region.binds .any e=true→dn e.on=true):Closed l (more dn i):=by
 intro j oj hj hd e he hb
 unfold Rx.more at hd ⊢
 by_cases hji:j=i
 ·subst hji
  have:oj=o:=Option.some.inj (hj.symm.trans ho)
  subst this
  simp [hw e he hb]
 ·have:dn j=true:=by simpa [hji] using hd
  simp [h j oj hj this e he hb]
theorem OG {l:List Oper} {J:(Nat→Bool)→Act→World→Prop} {Q:Exit→Act→World→Prop} (hl:lexB 0 l=true) (hs:Step P l J) (hE:∀ dn a W,(∀ k,k<l.length→dn k=true)→J dn a W→Q .normal a W) :
  ∀ (f:Nat) (listed:Array Bool) (dn:Nat→Bool) (a:Act) (W:World),listed.size=l.length→(∀ k,k<l.length→dn k=listed.getD k true)→Closed l dn→J dn a W→left listed l.length=f →
   wpAny P .any l.toArray Q f listed a W:=by
 intro f
 induction f with
 | zero =>
  intro listed dn a W hsz hdn hc hJ hleft
  have hall:=qo hleft
  refine ⟨?_,hE dn a W (fun k hk=>by rw [hdn k hk];exact hall k hk) hJ⟩
  apply List.eq_nil_iff_forall_not_mem.2
  intro i hi
  obtain ⟨h1,o,ho,_⟩:=mem_ready.1 hi
  have hlt:i<l.length:=by have:=(Array.getElem?_eq_some_iff.1 ho).1;simpa using this
  rw [hall i hlt] at h1
  cases h1
 | succ f ih =>
  intro listed dn a W hsz hdn hc hJ hleft
  obtain ⟨i0,hi0,hu0,hm0⟩:=rX (listed:=listed) (n:=l.length) (by omega)
  have hready0:i0∈Region.ready .any l.toArray listed:=by
   have ho:l[i0]? = some l[i0]:=List.getElem?_eq_getElem hi0
   refine mem_ready.2 ⟨hu0,l[i0],by simp [hi0],fun e he hb=>?_⟩
   have hlx:=ng hl ho e he hb
   have h1:=hm0 e.on (by omega)
   have hlt:e.on<listed.size:=by omega
   simpa [hlt] using h1
  refine ⟨fun h0=>(by rw [h0] at hready0;cases hready0),fun i hi=>?_⟩
  obtain ⟨hun,o,ho,hdone⟩:=mem_ready.1 hi
  have ho':l[i]? = some o:=by simpa using ho
  have hlt:i<l.length:=(List.getElem?_eq_some_iff.1 ho').1
  have hisz:i<listed.size:=by omega
  have hw:∀ e∈o.after,Region.binds .any e=true→dn e.on=true:=fun e he hb=>by
   have h1:=hdone e he hb
   have hlx:=ng hl ho' e he hb
   have hk:e.on<l.length:=by omega
   have hk2:e.on<listed.size:=by omega
   rw [hdn e.on hk]
   simpa [hk2] using h1
  refine Cc hs ho' (by rw [hdn i hlt];exact hun) hw hc hJ fun a' W' hJ'=>?_
  refine ih _ (more dn i) a' W' (by simp [hsz]) (fun k hk=>?_) (hc.more ho' hw) hJ' (by have:=rH hisz hun hlt;omega)
  unfold more
  by_cases e:k=i
  ·subst e;simp [hisz]
  ·rw [getD_set_ne true (Ne.symm e),hdn k hk,beq_false_of_ne e,Bool.or_false]
theorem OI {l:List Oper} {J:(Nat→Bool)→Act→World→Prop} {Q:Exit→Act→World→Prop} (hl:lexB 0 l=true) (hs:Step P l J) (hE:∀ dn a W,(∀ k,k<l.length→dn k=true)→J dn a W→Q .normal a W) :
  ∀ (n i:Nat) (dn:Nat→Bool) (a:Act) (W:World),i+n=l.length→(∀ k,dn k=decide (k<i))→Closed l dn→J dn a W→wpOps P l.toArray Q (List.range' i n) a W:=by
 intro n
 induction n with
 | zero =>
  intro i dn a W hi hdn _ hJ
  exact hE dn a W (fun k hk=>by rw [hdn];simp;omega) hJ
 | succ n ih =>
  intro i dn a W hi hdn hc hJ
  rw [List.range'_succ,wpOps_cons]
  have hlt:i<l.length:=by omega
  have ho:l[i]? = some l[i]:=by simp [hlt]
  have hw:∀ e∈l[i].after,Region.binds .any e=true→dn e.on=true:=fun e he hb=>by
   have:=ng hl ho e he hb
   rw [hdn];simp;omega
  refine Cc hs ho (by rw [hdn];simp) hw hc hJ fun a' W' hJ'=>?_
  refine ih (i+1) (more dn i) a' W' (by omega) (fun k=>?_) (hc.more ho hw) hJ'
  unfold more
  rw [hdn,Bool.eq_iff_iff]
  simp
  omega
theorem JD {id:Nat} {b:Bool} {l:List Oper} {a0:Act} {w:World} {J:(Nat→Bool)→Act→World→Prop} {Q:Exit→Act→World→Prop} (hm:P.follows .mixedOrders=true) (hl:lexB 0 l=true) (hs:Step P l J)
  (h0:J (fun _=>false) a0 w) (h1:J (fun _=>false) a0 w.drew) (hE:∀ dn a W,(∀ k,k<l.length→dn k=true)→J dn a W→Q .normal a W):(Code.region id l.toArray b).wp P Q a0 w:=by
 have hc:Closed l (fun _=>false):=fun _ _ _ h=>by cases h
 cases b with
 | false =>
  refine wp_region ?_
  rw [List.range_eq_range']
  exact OI hl hs hE _ 0 _ a0 w (by simp) (fun k=>by simp) hc h0
 | true =>
  refine wp_region_any hm ?_
  refine OG hl hs hE _ _ (fun _=>false) a0 w.drew (by simp) (fun k hk=>?_) hc h1 ?_
  ·exact (getD_in (by simpa using hk) (getD_replicate_false _ _)).symm
  ·have:=qQ l.length 0 l.length (Nat.le_refl _)
   simpa using this
end Rx
namespace Rx
open Go.RowKit
def Bx (W:World) (b:Nat) (T:TypeId) (vs:List Value):Prop:=W.heap[b]? = some (.cells vs.toArray T (0,0))
structure Nv where
 b:Bool
 u:Int
 p:Option Addr
 l:Nat
 c:Nat
 t:ByteArray
 pos:Nat
instance:Inhabited Nv:=⟨⟨false,0,none,0,0,.empty,0⟩⟩
abbrev Env:=Nat→Nv
inductive Cell
 | bl (b:Bool)
 | it (k:IntKind) (n:Int)
 | st (s:ByteArray)
 | nils
 | ob (n:Nat)
 | ou (n:Nat)
 | oi (n:Nat)
 | o8 (n:Nat)
 | os (n:Nat)
 | ot (n:Nat)
 | ptr (k off:Nat)
def Cell.den (ρ:Env):Cell→Value
 | .bl b=>.bool b
 | .it k n=>.int k n
 | .st s=>.string s
 | .nils=>.slice none 0 0
 | .ob n=>.bool (ρ n).b
 | .ou n=>.int .u64 (ρ n).u
 | .oi n=>.int .i64 (ρ n).u
 | .o8 n=>.int .u8 (ρ n).u
 | .os n=>.slice (ρ n).p (ρ n).l (ρ n).c
 | .ot n=>.string (ρ n).t
 | .ptr k off=>.pointer (some ⟨(ρ k).pos,off,none⟩)
def Cell.nm:Cell→List Nat
 | .ob n | .ou n | .oi n | .o8 n | .os n | .ot n=>[n]
 | .ptr k _=>[k]
 | _=>[]
inductive El
 | s (c:Cell)
 | a (l:List Cell)
def El.den (ρ:Env):El→Value
 | .s c=>c.den ρ
 | .a l=>.agg (l.map (Cell.den ρ)).toArray
def El.cells:El→List Cell
 | .s c=>[c]
 | .a l=>l
inductive SV
 | e (x:El)
 | t (l:List El)
 | und
def SV.den (ρ:Env):SV→Value
 | .e x=>x.den ρ
 | .t l=>.tuple (l.map (El.den ρ)).toArray
 | .und=>undef
def SV.nm:SV→List Nat
 | .e x=>x.cells.flatMap Cell.nm
 | .t l=>l.flatMap fun x=>x.cells.flatMap Cell.nm
 | .und=>[]
theorem Cell.den_congr {ρ ρ':Env} {c:Cell} (h:∀ n∈c.nm,ρ n=ρ' n):c.den ρ=c.den ρ':=by
 cases c <;> simp_all [Cell.den,Cell.nm]
theorem mM {ρ ρ':Env} {l:List Cell} (h:∀ n∈l.flatMap Cell.nm,ρ n=ρ' n):l.map (Cell.den ρ)=l.map (Cell.den ρ'):=
 List.map_congr_left fun c hc=>Cell.den_congr fun n hn=>h n (List.mem_flatMap.2 ⟨c,hc,hn⟩)
theorem El.den_congr {ρ ρ':Env} {x:El} (h:∀ n∈x.cells.flatMap Cell.nm,ρ n=ρ' n):x.den ρ=x.den ρ':=by
 cases x with
 | s c=>exact Cell.den_congr fun n hn=>h n (by simpa [El.cells] using hn)
 | a l=>simp only [El.den];rw [mM (show ∀ n∈l.flatMap Cell.nm,ρ n=ρ' n from h)]
theorem SV.den_congr {ρ ρ':Env} {x:SV} (h:∀ n∈x.nm,ρ n=ρ' n):x.den ρ=x.den ρ':=by
 cases x with
 | e x=>exact El.den_congr h
 | t l =>
  simp only [SV.den]
  rw [List.map_congr_left fun x hx=>El.den_congr fun n hn=>h n (List.mem_flatMap.2 ⟨x,hx,hn⟩)]
 | und=>rfl
theorem Cell.plain (ρ:Env) (c:Cell):(c.den ρ).cells=#[c.den ρ]:=by cases c <;> rfl
theorem El.den_cells (ρ:Env) (x:El):(x.den ρ).cells=(x.cells.map (Cell.den ρ)).toArray:=by
 cases x with
 | s c=>exact c.plain ρ
 | a l=>rfl
def oO:Value→Option Cell
 | .bool b=>some (.bl b)
 | .int k n=>some (.it k n)
 | .string s=>some (.st s)
 | .slice none 0 0=>some .nils
 | _=>none
def jZ:List Value→Option (List Cell)
 | []=>some []
 | v :: r=>match oO v,jZ r with
  | some c,some l=>some (c :: l)
  | _,_=>none
def qU:Value→Option SV
 | .agg cs=>(jZ cs.toList).map fun l=>.e (.a l)
 | v=>(oO v).map fun c=>.e (.s c)
theorem CP {v:Value} {c:Cell} (ρ:Env) (h:oO v=some c):c.den ρ=v:=by
 unfold oO at h
 split at h <;> first | (cases h;rfl) | cases h
theorem wZ (ρ:Env):∀ {vs:List Value} {l:List Cell},jZ vs=some l→l.map (Cell.den ρ)=vs
 | [],l,h=>by simp only [jZ,Option.some.injEq] at h;subst h;rfl
 | v :: r,l,h=>by
  simp only [jZ] at h
  split at h
  ·rename_i c l' h1 h2
   cases h
   simp [CP ρ h1,wZ ρ h2]
  ·cases h
theorem CQ {v:Value} {x:SV} (ρ:Env) (h:qU v=some x):x.den ρ=v:=by
 unfold qU at h
 split at h
 ·obtain ⟨l,h1,rfl⟩:=Option.map_eq_some_iff.1 h
  simp only [SV.den,El.den]
  rw [wZ ρ h1]
 ·obtain ⟨c,h1,rfl⟩:=Option.map_eq_some_iff.1 h
  exact CP ρ h1
structure Sys where
 F:Type
 nm:F→List Nat
 on:Env→F→World→Prop
 okC:List Cell→Bool
 cg:∀ {ρ ρ' f W},(∀ n∈nm f,ρ n=ρ' n)→on ρ f W→on ρ' f W
 bl:∀ {ρ f W W'},Below W.heap.size W W'→on ρ f W→on ρ f W'
 st:∀ {ρ f W b T cs i u},okC cs=true→Bx W b T (cs.map (Cell.den ρ))→on ρ f W→on ρ f (W.setCell ⟨b,i,none⟩ u)
abbrev M:Nat:=64
structure Con (S:Sys) where
 fn:FuncId
 app:List S.F→Nat→List SV→Option (SV×List S.F)
def Con.Ok (P:Program) (S:Sys) (E:World→Prop) (c:Con S):Prop:=
 ∀ fs b args res new,c.app fs b args=some (res,new)→∀ ρ W,(∀ f∈fs,S.on ρ f W)→E W →
  Calls P c.fn (args.map (SV.den ρ)).toArray W fun e W'=>∃ ρ':Env,(∀ n,n<b∨b+M≤n→ρ' n=ρ n)∧e=.returned (res.den ρ')∧Below W.heap.size W W'∧∀ f∈new,S.on ρ' f W'
inductive Eff
 | no
 | new (T:TypeId) (cs:List Cell)
 | put (k off:Nat) (cs:List Cell)
structure Rec (F:Type) where
 v:SV
 ef:Eff
 fs:List F
 acc:List Nat
instance {F:Type}:Inhabited (Rec F):=⟨⟨.und,.no,[],[]⟩⟩
def kK (P:Program) (t:TypeId):Option Bool:=
 match P.underlying t with
 | some (.struct _) | some (.array _ _)=>some true
 | some _=>some false
 | none=>none
def iO (P:Program) (t:TypeId):Option Nat:=(P.info? t).map (·.size)
def lG (P:Program) (t:TypeId) (f:Nat):Option Field:=
 match P.underlying t with
 | some (.struct fs)=>fs[f]?
 | _=>none
def splice (off:Nat) (new cs:List Cell):List Cell:=cs.take off ++ new ++ cs.drop (off+new.length)
def yu:BinOp→Int→Int→Option Bool
 | .eql,a,b=>some (a == b)
 | .neq,a,b=>some (a != b)
 | .lss,a,b=>some (decide (a<b))
 | .leq,a,b=>some (decide (a≤b))
 | .gtr,a,b=>some (decide (a > b))
 | .geq,a,b=>some (decide (a≥b))
 | _,_,_=>none
structure Tests (S:Sys) where
 eq:List S.F→Cell→Cell→Option Bool
 ok:∀ {fs c d x},eq fs c d=some x→∀ ρ W,(∀ f∈fs,S.on ρ f W)→(∃ s t:ByteArray,c.den ρ=.string s∧d.den ρ=.string t∧(s.toList == t.toList)=x)∨∃ (k:IntKind) (a b:Int),c.den ρ=.int k a∧d.den ρ=.int k b∧(a == b)=x
def xO {S:Sys} (P:Program) (H:Tests S) (db:List S.F) (op:BinOp) (T:TypeId):Cell→Cell→Option Bool
 | .it k a,.it k' b=>if k=k' then yu op a b else none
 | .bl a,.bl b=>match P.underlying T,op with
  | some .bool,.eql=>some (a == b)
  | some .bool,.neq=>some (!(a == b))
  | _,_=>none
 | c,d=>match op,H.eq db c d with
  | .eql,some x=>some x
  | .neq,some x=>some (!x)
  | _,_=>none
def opd (rd:Tmp→Option SV):Operand→Option SV
 | .tmp t=>rd t
 | .const v=>qU v
 | _=>none
def sG (rd:Tmp→Option SV):List Operand→Option (List SV)
 | []=>some []
 | x :: r=>match opd rd x,sG rd r with
  | some v,some l=>some (v :: l)
  | _,_=>none
def pW {S:Sys}:List (Con S)→FuncId→List S.F→Nat→List SV→Option (SV×List S.F)
 | [],_,_,_,_=>none
 | c :: r,f,db,b,args=>if c.fn=f then (match c.app db b args with
   | some x=>some x
   | none=>pW r f db b args) else pW r f db b args
def AP (S:Sys) (off:Nat) (new cs:List Cell):Bool:=(List.range (new.length+1)).all fun m=>S.okC (splice off (new.take m) cs)
def xU (P:Program) (f:FuncId):Bool:=
 match P.funcs[f]? with
 | some fn=>fn.body.isSome && !(fn.name == "runtime.NumGoroutine")
 | none=>false
def qF (P:Program):List Field→Option (List (Nat×Nat))
 | []=>some []
 | f :: r=>match iO P f.type,qF P r with
  | some n,some l=>some ((f.offset,n) :: l)
  | _,_=>none
def pU (pl:List (Nat×Nat)):List (Nat×El)→List Cell→Option (List Cell)
 | [],cs=>some cs
 | (i,x) :: r,cs=>match pl[i]? with
  | some (off,n)=>if x.cells.length=n && decide (off+n≤cs.length) then pU pl r (splice off x.cells cs) else none
  | none=>none
def sK (rd:Tmp→Option SV):List (Nat×Operand)→Option (List (Nat×El))
 | []=>some []
 | (i,x) :: r=>match opd rd x,sK rd r with
  | some (.e v),some l=>some ((i,v) :: l)
  | _,_=>none
def BP (P:Program) (t:TypeId):Option (List Cell):=
 match (P.info? t).bind (·.zero) with
 | some z=>jZ z.cells.toList
 | none=>none
def evalOp {S:Sys} (P:Program) (H:Tests S) (cons:List (Con S)) (rd:Tmp→Option SV) (ct:Nat→Option (TypeId×List Cell)) (db:List S.F) (b:Nat):Op→Option (Rec S.F)
 | .move x | .assign x=>(opd rd x).map fun v=>⟨v,.no,[],[]⟩
 | .pick c x y=>match opd rd c with
  | some (.e (.s (.bl true)))=>(opd rd x).map fun v=>⟨v,.no,[],[]⟩
  | some (.e (.s (.bl false)))=>(opd rd y).map fun v=>⟨v,.no,[],[]⟩
  | _=>none
 | .box T x=>match opd rd x with
  | some (.e x)=>some ⟨.e (.s (.ptr b 0)),.new T x.cells,[],[]⟩
  | _=>none
 | .alloc T=>match (P.info? T).bind (·.zero) with
  | some z=>match qU z with
   | some (.e x)=>some ⟨.e (.s (.ptr b 0)),.new T x.cells,[],[]⟩
   | _=>none
  | none=>none
 | .load t a=>match opd rd a with
  | some (.e (.s (.ptr k off)))=>match ct k,kK P t,iO P t with
   | some (_,cs),some true,some n=>if off+n≤cs.length then some ⟨.e (.a ((cs.drop off).take n)),.no,[],[k]⟩ else none
   | some (_,cs),some false,_=>match cs[off]? with
    | some c=>some ⟨.e (.s c),.no,[],[k]⟩
    | none=>none
   | _,_,_=>none
  | _=>none
 | .store t a x=>match opd rd a,opd rd x with
  | some (.e (.s (.ptr k off))),some (.e x)=>match ct k,iO P t with
   | some (_,cs),some n=>if x.cells.length=n && decide (off+n≤cs.length) && AP S off x.cells cs then some ⟨.und,.put k off x.cells,[],[k]⟩ else none
   | _,_=>none
  | _,_=>none
 | .fieldAddr s x f=>match opd rd x,lG P s f with
  | some (.e (.s (.ptr k off))),some fd=>if (iO P fd.type).any (· != 0) then some ⟨.e (.s (.ptr k (off+fd.offset))),.no,[],[]⟩ else none
  | _,_=>none
 | .field s x f=>match opd rd x,lG P s f with
  | some (.e (.a cs)),some fd=>match kK P fd.type,iO P fd.type with
   | some true,some n=>some ⟨.e (.a ((cs.drop fd.offset).take n)),.no,[],[]⟩
   | some false,_=>match cs[fd.offset]? with
    | some c=>some ⟨.e (.s c),.no,[],[]⟩
    | none=>none
   | _,_=>none
  | _,_=>none
 | .binOp op T x y _=>match opd rd x,opd rd y with
  | some (.e (.s c)),some (.e (.s d))=>(xO P H db op T c d).map fun x=>⟨.e (.s (.bl x)),.no,[],[]⟩
  | _,_=>none
 | .unOp .not _ x=>match opd rd x with
  | some (.e (.s (.bl x)))=>some ⟨.e (.s (.bl !x)),.no,[],[]⟩
  | _=>none
 | .extract x i=>match opd rd x with
  | some (.t l)=>match l[i]? with
   | some e=>some ⟨.e e,.no,[],[]⟩
   | none=>none
  | _=>none
 | .build t parts=>match P.underlying t with
  | some (.struct fs)=>match qF P fs.toList,BP P t,sK rd parts.toList with
   | some pl,some zc,some ps=>match pU pl ps zc with
    | some cs=>some ⟨.e (.a cs),.no,[],[]⟩
    | none=>none
   | _,_,_=>none
  | _=>none
 | .call c=>match c.callee,sG rd c.args.toList with
  | .value (.func f),some args=>if xU P f then (match pW cons f db b args with
   | some (v,fs)=>some ⟨v,.no,fs,[]⟩
   | none=>none) else none
  | _,_=>none
 | _=>none
end Rx
end Go.Proofs.YtnmlkobogofadaaGreatDoor
