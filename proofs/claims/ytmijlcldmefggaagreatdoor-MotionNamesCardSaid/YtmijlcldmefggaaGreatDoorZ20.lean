/- What the proof rests on, part 20. -/
import Derived.Test.YtmijlcldmefggaaGreatDoorZ19
import Derived.Test.YtmijlcldmefggaaGreatDoorZ10
import Derived.Test.YtmijlcldmefggaaGreatDoorZ16
import Derived.Test.YtmijlcldmefggaaGreatDoorZ02
import Derived.Test.YtmijlcldmefggaaGreatDoorRows
import Derived.ProofKit
import Derived.Handy
import Derived.Lay
import Derived.SevenTiedAt
import Derived.Lib.SmallJoins
import Derived.Stop.LaidErr
import Derived.Shelf.Vars
import Derived.Test.YtmijlcldmefggaaGreatDoorZ07
import Derived.Test.YtmijlcldmefggaaGreatDoorZ14
import Derived.OrdersIn
import Derived.LoopNIn
import Derived.RangeFuncNested
namespace Go.Proofs.YtmijlcldmefggaaGreatDoor
set_option maxRecDepth 100000
set_option maxHeartbeats 80000000
section
open Go.RowKit Go.Sort
attribute [local go_sem] takes takesUpon_value takesUpon_skip takesUpon_enter
def dv (l:List UInt8):Nat:=l.foldl (fun a x=>a*10+(x.toNat - 48)) 0
theorem dv_snoc (l:List UInt8) (x:UInt8):dv (l ++ [x])=dv l*10+(x.toNat - 48):=by simp [dv]
theorem foldl_dv (r:List UInt8):∀ a:Nat,r.foldl (fun a x=>a*10+(x.toNat - 48)) a=a*10 ^ r.length+dv r:=by
 unfold dv
 induction r with
 | nil=>intro a;simp
 | cons x r ih =>
  intro a
  rw [List.foldl_cons,ih,List.foldl_cons,ih (0*10+(x.toNat - 48)),List.length_cons,Nat.pow_succ]
  grind
theorem dv_append (l r:List UInt8):dv (l ++ r)=dv l*10 ^ r.length+dv r:=by
 conv=>lhs;unfold dv
 rw [List.foldl_append]
 exact foldl_dv r (dv l)
theorem dv_lt (l:List UInt8) (h:l.all digB=true):dv l<10 ^ l.length:=by
 induction l with
 | nil=>decide
 | cons x l ih =>
  simp only [List.all_cons,Bool.and_eq_true] at h
  have h1:=ih h.2
  have h2:=h.1
  simp only [digB,decide_eq_true_eq] at h2
  have h3:dv (x :: l)=(x.toNat - 48)*10 ^ l.length+dv l:=by
   have:=dv_append [x] l
   rw [List.singleton_append] at this
   rw [this]
   show (0*10+(x.toNat - 48))*_+_=_
   rw [Nat.zero_mul,Nat.zero_add]
  have h4:(x.toNat - 48)*10 ^ l.length≤9*10 ^ l.length:=Nat.mul_le_mul_right _ (by omega)
  rw [h3,List.length_cons,Nat.pow_succ]
  omega
theorem dv_take (r:List UInt8) (j:Nat) (hj:j<r.length) (h:r.all digB=true):dv (r.take (j+1))=dv (r.take j)*10+(r[j].toNat - 48)∧48≤r[j].toNat∧r[j].toNat≤57∧dv (r.take j)<10 ^ j:=by
 rw [List.take_succ_eq_append_getElem hj,dv_snoc]
 have h1:=List.all_eq_true.1 h _ (List.getElem_mem hj)
 simp only [digB,decide_eq_true_eq] at h1
 refine ⟨rfl,h1.1,h1.2,?_⟩
 have:=dv_lt (r.take j) (by rw [List.all_eq_true];intro y hy;exact List.all_eq_true.1 h y (List.mem_of_mem_take hy))
 rwa [List.length_take,Nat.min_eq_left (by omega)] at this
theorem ten_lt {m K:Nat} (h:m<K):10 ^ m<B64 ^ K:=
 Nat.lt_of_lt_of_le (Nat.pow_lt_pow_right (by decide) h) (Nat.pow_le_pow_left (by unfold B64;decide) K)
theorem all_take {r:List UInt8} (h:r.all digB=true) (n:Nat):(r.take n).all digB=true:=by
 rw [List.all_eq_true];intro y hy;exact List.all_eq_true.1 h y (List.mem_of_mem_take hy)
theorem extract_drop (r:List UInt8) (j:Nat):(⟨r.toArray⟩:ByteArray).extract j r.length=⟨(r.drop j).toArray⟩:=by
 apply ByteArray.ext
 rw [ByteArray.data_extract]
 simp [List.take_of_length_le]
def strLen:Value→Nat
 | .string s=>s.size
 | _=>0
theorem magOf_calls (l:List UInt8) (w:World) (hd:l.all digB=true) (hl:l.length≤1000000):Calls Tryz.prog 119 #[.string ⟨l.toArray⟩] w (RetM w (dv l)):=by
 have HD:=hid hd
 clear hd
 go_enter Tryz.func119,Tryz.ntmps119
 go_wp2_with fail
 have hS0:=hid (((St.start w).alloc' (w.heap.size) (by simp) 28 [.int .u64 0,.slice none 0 0]).alloc' (w.heap.size+1) (by simp) 28 [.int .u64 0,.slice none 0 0])
 obtain ⟨W0,hW0⟩:=nameW hS0
 rw [hW0] at hS0 ⊢
 clear hW0
 go_wp2_with fail
 go_loopw [0] (fun sv wr=>∃ (t r:List UInt8) (x1:Int) (p1:Option Addr) (l1 q1:Nat),sv=.string ⟨r.toArray⟩∧l=t ++ r∧St w [⟨w.heap.size+1,28,[.int .u64 x1,.slice p1 l1 q1]⟩,⟨w.heap.size,28,[.int .u64 0,.slice none 0 0]⟩] [.m (.int .u64 x1) (.slice p1 l1 q1) (dv t)] wr) (fun sv _=>strLen sv)
 case atStart=>exact ⟨[],l,0,none,0,0,rfl,rfl,hS0.out.fact (.m (.int .u64 0) (.slice none 0 0) (dv [])) (isMag_lit _ 0 (by decide))⟩
 case round =>
  clear hS0
  obtain ⟨t,r,x1,p1,l1,q1,rfl,htr,hSt⟩:=hrel
  have HS:=hid hSt
  have HTR:=hid htr
  clear hSt
  have hrl:r.length≤1000000:=by rw [htr,List.length_append] at hl;omega
  have HDr:=hid (show r.all digB=true by have:=HD.out;rw [htr,List.all_append,Bool.and_eq_true] at this;exact this.2)
  clear htr
  by_cases hlt:0<r.length
  ·go_wp2_with fail
   obtain ⟨n,hn,hn19,hnr,hn1⟩:∃ n:Nat,min (19:Int) (r.length:Int)=(n:Int)∧n≤19∧n≤r.length∧1≤n:=⟨min 19 r.length,by omega,by omega,by omega,by omega⟩
   rw [hn]
   clear hn
   go_loop [5,14] (fun pv iv=>∃ j:Nat,iv=.int .i64 (j:Int)∧j≤n∧pv=.int .u64 ((dv (r.take j):Nat):Int)) (fun _ iv=>n - (intOf iv).toNat)
   case atStart=>exact ⟨0,rfl,Nat.zero_le _,rfl⟩
   case round =>
    obtain ⟨j,rfl,hj,rfl⟩:=hrel
    by_cases hlt2:j<n
    ·have hjr:j<r.length:=by omega
     have ht:=dv_take r j hjr HDr.out
     obtain ⟨V,hV⟩:∃ V,dv (r.take j)=V:=⟨_,rfl⟩
     obtain ⟨x,hx⟩:∃ x,r[j]=x:=⟨_,rfl⟩
     have hp:(10:Nat) ^ j≤10 ^ 18:=Nat.pow_le_pow_right (by decide) (by omega)
     have hi2:((⟨r.toArray⟩:ByteArray)[j]'(by simpa [ByteArray.size] using hjr)).toNat=x.toNat:=by rw [← hx];rfl
     rw [hV,hx] at ht
     obtain ⟨ht1,ht2,ht3,ht4⟩:=ht
     have hV18:V<1000000000000000000:=by omega
     have HT1:=hid ht1
     rw [hV]
     clear ht1 ht4 hp hx hV
     obtain ⟨X,hX⟩:∃ X,x.toNat=X:=⟨_,rfl⟩
     rw [hX] at hi2 ht2 ht3 HT1
     clear hX
     have hcj:(j:Int)<(n:Int):=by omega
     go_wp2_with fail
     exact ⟨⟨j+1,by simp,by omega,by rw [HT1.out];congr 1;omega⟩,by simp [intOf];omega⟩
    ·obtain rfl:j=n:=by omega
     have hcj:¬ ((j:Int)<(j:Int)):=by omega
     obtain ⟨KK,hKK⟩:∃ KK,KK=1000020:=⟨_,rfl⟩
     have hKKb:KK≤17179869184:=by omega
     have hjl:t.length+r.length≤1000000:=by have:=congrArg List.length HTR.out;rw [List.length_append] at this;omega
     have hb1:dv t<10 ^ t.length:=dv_lt t (by have:=HD.out;rw [HTR.out,List.all_append,Bool.and_eq_true] at this;exact this.1)
     have hb2:dv (r.take j)<10 ^ j:=by have:=dv_lt (r.take j) (all_take HDr.out j);rwa [List.length_take,Nat.min_eq_left hnr] at this
     have HK1:=hid (Nat.lt_trans hb1 (ten_lt (K:=KK) (by omega)))
     have HK2:=hid (ten_lt (m:=j) (K:=KK) (by omega))
     have HK3:=hid (show dv t*10 ^ j<B64 ^ KK by have h1:=ten_lt (m:=t.length+j) (K:=KK) (by omega);rw [Nat.pow_add] at h1;exact Nat.lt_of_le_of_lt (Nat.mul_le_mul_right _ (Nat.le_of_lt hb1)) h1)
     have HV:=hid (show dv (r.take j)<B64 by have h1:(10:Nat) ^ j≤10 ^ 19:=Nat.pow_le_pow_right (by decide) hn19;exact Nat.lt_of_lt_of_le (Nat.lt_of_lt_of_le hb2 h1) (by decide))
     have HTT:=hid (show dv t*10 ^ j+dv (r.take j)=dv (t ++ r.take j) by rw [dv_append,List.length_take,Nat.min_eq_left hnr])
     have HVK:=hid (show dv (r.take j)<B64 ^ KK from Nat.lt_trans hb2 (ten_lt (by omega)))
     clear hb1 hb2 hKK
     obtain ⟨V,hV⟩:∃ V,dv (r.take j)=V:=⟨_,rfl⟩
     rw [hV] at HV HVK HTT ⊢
     clear hV
     go_wp2_with fail
     have LM0:=hid (fun (W:World) (h:Below wr.heap.size wr W)=>((HS.out.call h).f2 0 (w.heap.size+1) 28 (.int .u64 x1) (.slice p1 l1 q1) rfl).1)
     refine wp_region_inv 7 [⟨[],[0]⟩,⟨[],[1]⟩,⟨[1],[2]⟩,⟨[0,2],[3]⟩,⟨[],[4]⟩,⟨[4],[5]⟩,⟨[3,5],[6]⟩]
      [oE (.agg #[.int .u64 x1,.slice p1 l1 q1]),oE (.int .i64 (j:Int)),one (MagV (10 ^ j)),one (MagV (dv t*10 ^ j)),oE (.int .u64 (V:Int)),oE (.agg #[.int .u64 (V:Int),.slice none 0 0]),one (MagV (dv t*10 ^ j+V))]
      (fun _ W=>Below wr.heap.size wr W) (by kernel_rfl) (by kernel_rfl) ?hTW1 ?hZW1 ?hOW1 ?hEW1
     case hZW1=>exact (Below.refl _ _).drew
     case hTW1 =>
      simp only [List.forall_mem_cons,List.not_mem_nil,false_imp_iff,implies_true,and_true]
      exact ⟨bE,bE,one_below magV_below,one_below magV_below,bE,bE,one_below magV_below⟩
     case hOW1 =>
      intro u
      simp only [List.take_succ_cons,List.take_zero,putAll]
      repeat' (first | with_reducible exact debts_nil | with_reducible refine debts_cons ?_ ?_)
      ·intro W hS hF K hK
       have hcS:=LM0.out W hS
       go_simp
       exact hK _ _ (.refl _ _) hS rfl
      ·intro W hS hF K hK
       go_simp
       exact hK _ _ (.refl _ _) hS rfl
      ·intro W hS hF K hK
       have h1:u 1=.int .i64 (j:Int):=hF.1
       clear hF
       go_simp
       refine (pow10_calls j KK _ HK2.out (by omega)).mono ?_
       rintro e wA ⟨c,d,rfl,hm,hBA⟩
       obtain ⟨xx,pp,ll,qq,rfl,rfl⟩:=hm.shape
       exact ⟨_,rfl,hK _ _ hBA (hS.trans (hBA.mono hS.size)) ⟨_,_,_,_,rfl,hm⟩⟩
      ·intro W hS hF K hK
       have h0:u 0=.agg #[.int .u64 x1,.slice p1 l1 q1]:=hF.1
       obtain ⟨x2,p2,l2,q2,h2,m2⟩:MagV (10 ^ j) (u 2) W:=hF.2.1
       have sH:=hid (HS.out.call hS)
       clear hF
       go_simp
       refine (mtimes_calls (dv t) (10 ^ j) KK _ _ _ _ _ (sH.out.get (f:=.m (.int .u64 x1) (.slice p1 l1 q1) (dv t)) 0 rfl) m2 (by omega) HK1.out HK2.out).mono ?_
       rintro e wA ⟨c,d,rfl,hm,hBA⟩
       obtain ⟨xx,pp,ll,qq,rfl,rfl⟩:=hm.shape
       exact ⟨_,rfl,hK _ _ hBA (hS.trans (hBA.mono hS.size)) ⟨_,_,_,_,rfl,hm⟩⟩
      ·intro W hS hF K hK
       go_simp
       exact hK _ _ (.refl _ _) hS rfl
      ·intro W hS hF K hK
       have h4:u 4=.int .u64 (V:Int):=hF.1
       clear hF
       go_simp
       exact hK _ _ (.refl _ _) hS rfl
      ·intro W hS hF K hK
       obtain ⟨x3,p3,l3,q3,h3,m3⟩:MagV (dv t*10 ^ j) (u 3) W:=hF.1
       have h5:u 5=.agg #[.int .u64 (V:Int),.slice none 0 0]:=hF.2.1
       clear hF
       go_simp
       refine (mplus_calls (dv t*10 ^ j) V KK _ _ _ _ _ m3 (isMag_lit _ V HV.out) (by omega) HK3.out HVK.out).mono ?_
       rintro e wA ⟨c,d,rfl,hm,hBA⟩
       obtain ⟨xx,pp,ll,qq,rfl,rfl⟩:=hm.shape
       exact ⟨_,rfl,hK _ _ hBA (hS.trans (hBA.mono hS.size)) ⟨_,_,_,_,rfl,hm⟩⟩
     case hEW1 =>
      intro u W1 hS hF
      have hS1:=hid (HS.out.call hS)
      obtain ⟨x6,p6,l6,q6,e6,m6⟩:MagV (dv t*10 ^ j+V) (u 6) W1:=hF.2.2.2.2.2.2.1
      clear hF hS
      rw [HTT.out] at m6
      have hS2:=hid (hS1.out.fact (.m (.int .u64 x6) (.slice p6 l6 q6) (dv (t ++ r.take j))) m6)
      clear hS1 m6
      obtain ⟨⟨cS0,cS1⟩,fS0,fS1⟩:=hS2.out.f2 0 (w.heap.size+1) 28 (.int .u64 x1) (.slice p1 l1 q1) rfl
      simp only [List.take_succ_cons,List.take_zero,putAll,List.drop_succ_cons,List.drop_zero]
      go_wp2_with fail
      clear cS0 cS1 fS0 fS1
      have hJ:=hid ((((hS2.out).store (b:=⟨w.heap.size+1,28,[.int .u64 x1,.slice p1 l1 q1]⟩) 0 0 (.int .u64 x6) rfl rfl).store (b:=⟨w.heap.size+1,28,[.int .u64 x6,.slice p1 l1 q1]⟩) 0 1 (.slice p6 l6 q6) rfl rfl).as [⟨w.heap.size+1,28,[.int .u64 x6,.slice p6 l6 q6]⟩,⟨w.heap.size,28,[.int .u64 0,.slice none 0 0]⟩] rfl)
      rw [extract_drop]
      exact ⟨⟨t ++ r.take j,r.drop j,x6,p6,l6,q6,rfl,by rw [List.append_assoc,List.take_append_drop];exact HTR.out,⟨hJ.out.bel,hJ.out.box,(hJ.out.get (f:=.m (.int .u64 x6) (.slice p6 l6 q6) (dv (t ++ r.take j))) 0 rfl),trivial⟩⟩,by simp only [strLen,ByteArray.size,List.size_toArray,List.length_drop];omega⟩
  ·have h0:r=[]:=List.length_eq_zero_iff.1 (by omega)
   subst h0
   have hlt0:t=l:=by have:=HTR.out;rw [List.append_nil] at this;exact this.symm
   rw [hlt0] at HS
   clear hlt0 HTR HDr hlt hrl
   obtain ⟨⟨cS0,cS1⟩,fS0,fS1⟩:=HS.out.f2 0 (w.heap.size+1) 28 (.int .u64 x1) (.slice p1 l1 q1) rfl
   obtain ⟨⟨cR0,cR1⟩,fR0,fR1⟩:=HS.out.f2 1 w.heap.size 28 (.int .u64 0) (.slice none 0 0) rfl
   have hS1:=hid ((((HS.out).store (b:=⟨w.heap.size,28,[.int .u64 0,.slice none 0 0]⟩) 1 0 (.int .u64 x1) rfl rfl).store (b:=⟨w.heap.size,28,[.int .u64 x1,.slice none 0 0]⟩) 1 1 (.slice p1 l1 q1) rfl rfl).as [⟨w.heap.size+1,28,[.int .u64 x1,.slice p1 l1 q1]⟩,⟨w.heap.size,28,[.int .u64 x1,.slice p1 l1 q1]⟩] rfl)
   go_wp2_with fail
   clear cS0 cS1 fS0 fS1 cR0 cR1 fR0 fR1
   obtain ⟨⟨zR0,zR1⟩,-⟩:=hS1.out.f2 1 w.heap.size 28 (.int .u64 x1) (.slice p1 l1 q1) rfl
   exact bodyPost_ret (v:=.agg #[.int .u64 x1,.slice p1 l1 q1]) (by simp [results,Tryz.results119,go_sem,zR0,zR1]) rfl ⟨_,_,rfl,(hS1.out.get (f:=.m (.int .u64 x1) (.slice p1 l1 q1) (dv l)) 0 rfl),hS1.out.bel⟩
end
section
open Go.RowKit Go.Sort
def TabM (w:World):Prop:=3<w.heap.size∧∃ m:Int,w.cell? ⟨3,0,none⟩=some (.int .i64 m)
theorem TabM.below {B:Nat} {w w':World} (h:TabM w) (hb:Below B w w') (hB:w.heap.size≤B):TabM w':=by
 obtain ⟨h1,m,h2⟩:=h
 exact ⟨Nat.lt_of_lt_of_le h1 hb.size,m,(hb.cell (p:=⟨3,0,none⟩) (Nat.lt_of_lt_of_le h1 hB)).trans h2⟩
structure Env (w:World):Prop where
 tz:Tab w
 ten:Tab10 w
 max:TabM w
theorem Env.below {B:Nat} {w w':World} (h:Env w) (hb:Below B w w') (hB:w.heap.size≤B):Env w':=⟨h.tz.below hb hB,h.ten.below hb hB,h.max.below hb hB⟩
theorem cutp_calls (l:List UInt8) (w:World):Calls Tryz.prog 115 #[.string ⟨l.toArray⟩,.string ⟨#[45]⟩] w
  fun e w'=>e=.returned (.tuple #[.string ⟨(Lib.trimPrefix l [45]).toArray⟩,.bool (Lib.hasPrefix l [45])])∧Below w.heap.size w w':=by
 refine (Tryz.strings_CutPrefix ⟨l.toArray⟩ ⟨#[45]⟩ w).mono ?_
 rintro e w' ⟨rfl,rfl⟩
 exact ⟨by simp,Below.refl _ _⟩
theorem cut_calls (l:List UInt8) (c:UInt8) (w:World) (hl:l.length≤1000000) (hM:TabM w):Calls Tryz.prog 116 #[.string ⟨l.toArray⟩,.string ⟨#[c]⟩] w
  fun e w'=>e=.returned (.tuple #[.string ⟨(Lib.cut l [c]).1.toArray⟩,.string ⟨(Lib.cut l [c]).2.1.toArray⟩,.bool (Lib.cut l [c]).2.2])∧Below w.heap.size w w':=by
 obtain ⟨-,m,hm⟩:=hM
 refine (Tryz.strings_Cut ⟨l.toArray⟩ ⟨#[c]⟩ m w (by simp [ByteArray.size];omega) hm).mono ?_
 rintro e w' ⟨rfl,n,rfl⟩
 exact ⟨by simp,below_drewN _ _⟩
end
section
open Go.ChangeShapes Go.WideShapes Go.ChangeAt Go.RowKit Go.Joins
def laidT:List (String×DataW Unit):=[("math/bits.deBruijn32tab",Rows.laid_math_bits_deBruijn32tab),("math/bits.deBruijn64tab",Rows.laid_math_bits_deBruijn64tab),("internal/strconv.uint64pow10",Rows.laid_internal_strconv_uint64pow10)]
theorem ownK:ownKnob Tryz.prog.godebug=none:=by kernel_rfl
theorem cell_lt {W:World} {b o:Nat} {v:Value} (h:W.cell? ⟨b,o,none⟩=some v):b<W.heap.size:=by
 rcases Nat.lt_or_ge b W.heap.size with hlt | hge
 ·exact hlt
 ·unfold World.cell? at h;simp only [Array.getElem?_eq_none hge] at h;cases h
theorem env_of {W:World} (hL:laidMetH Tryz.prog laidT W) (hS:W.ShapedOpen Tryz.prog):Env W:=by
 rw [MakeChecks.laidMetH_plain _ _ _ (by kernel_rfl)] at hL
 have t64:Lib.TabIs Tryz.prog W "math/bits.deBruijn64tab" .u8 (Lib.deBruijn64tab.map fun (n:Nat)=>(n:Int)):=
  Lib.tabIs_of_head (g:=0) (t:=297) (e:=5) (n:=64) (by kernel_rfl) (by kernel_rfl) Tryz.underlying297 Tryz.underlying5 (by kernel_rfl) (by kernel_rfl) (show laidMet Tryz.prog ((_,Lib.tabData .u8 _) :: _) W from Go.laidMet.tail hL)
 have t10:Lib.TabIs Tryz.prog W "internal/strconv.uint64pow10" .u64 Lib.pow10Tab:=
  Lib.tabIs_of_head (g:=4) (t:=394) (e:=24) (n:=20) (by kernel_rfl) (by kernel_rfl) Tryz.underlying394 Tryz.underlying24 (by kernel_rfl) (by kernel_rfl) (show laidMet Tryz.prog ((_,Lib.tabData .u64 _) :: _) W from Go.laidMet.tail (Go.laidMet.tail hL))
 have c64:TabAt 0 Lib.deBruijn64tab W:=fun j hj=>by
  have:=t64.cell (g:=0) (by kernel_rfl) j (by simpa using hj)
  rw [this]
  simp [List.getD,hj]
 have c10:=t10.cell (g:=4) (by kernel_rfl) 0 (by decide)
 obtain ⟨m,hm⟩:=cell_of_shapedOpen_int (g:=3) (t:=3) (zero:=#[.int .i64 0]) (k:=.i64) hS (of_decide_eq_true (by kernel_rfl)) (by kernel_rfl) rfl (by kernel_rfl) (by kernel_rfl) Tryz.underlying3
 exact ⟨⟨cell_lt (c64 0 (by decide)),c64⟩,⟨cell_lt c10,t10⟩,⟨cell_lt hm,m,hm⟩⟩
section
variable {H:Type} {enc:TypeId×Value→H}
theorem handed_shaped {C:Checked} {os:Os} {f:FuncId} {fn:Func} {s:ChangeSpec} {X:World→Prop} (hX:∀ w w':World,w.heap=w'.heap→X w→X w')
  (own:ownKnob C.prog.godebug=none) (started:os.Started) (noInit:C.prog.inits.idxOf? f=none) (hfn:C.prog.funcs[f]? = some fn)
  (witness:∃ (w:World) (tape:Tape) (i:Input),w.os=os∧(w.forCall tape i).Shaped C.prog∧i.vars=[]∧Input.okWide C.prog (w.forCall tape i) .any w.heap.size f i ∧
   ((s.pre enc C.prog fn [] false (w.forCall tape i).memory i.args∧X (w.forCall tape i).memory)∧sizedMet enc C.prog fn (OpenSpec.ofChange s) false (w.forCall tape i).memory i.args)∧({}:Assume).holds C.prog (lone (Frame.enter C.prog f i.args .normal) [] (w.forCall tape i)))
  (contract:∀ (W:World) (base:Nat) (args:Array Value) (ds gs:List (DataW H)) (before:List MemPlace),
   (∀ (j:Nat) t v,fn.params[j]? = some t→args[j]? = some v→Value.okWide C.prog W .any base t v) →
   DataW.Whole enc C.prog fn.params.toList s.vars false W args.toList ds gs before→W.ShapedOpen C.prog→X W →
   Calls C.prog f args W fun e W'=>∃ v,e=.returned v∧s.post enc C.prog fn false true false false W args v W') :
  ReturnsInHanded {} C os f .any (fun w args=>(s.pre enc C.prog fn [] false w args∧X w)∧sizedMet enc C.prog fn (OpenSpec.ofChange s) false w args) (s.post enc C.prog fn false true false false):=by
 refine returnsInHanded_of_calls own started noInit witness ?_
 intro w tape i _ hsh _ hok hpre _
 obtain ⟨_,_,_,fn',hfn',_,_,_,_,hval⟩:=hok
 have e:fn' = fn:=Option.some.inj (hfn'.symm.trans hfn)
 subst e
 obtain ⟨⟨⟨ds,gs,before,hw,hc⟩,hx⟩,hz⟩:=hpre
 have hw':=DataW.Whole.of_heap (w':=w.forCall tape i) (by rfl) hw
 refine (contract (w.forCall tape i) w.heap.size i.args ds gs before hval hw' hsh (hX _ _ (by rfl) hx)).mono fun e W' ⟨v,he,hp⟩=>?_
 subst he
 exact ChangeSpec.post_blind hp
theorem i64_bounds {n:Int} (h:(Lit.int .i64 n).wf=true):-9223372036854775808≤n∧n≤9223372036854775807:=by simpa [Lit.wf,IntKind.min,IntKind.max,IntKind.signed,IntKind.bits] using h
theorem u8_bounds {n:Int} (h:(Lit.int .u8 n).wf=true):0≤n∧n≤255:=by simpa [Lit.wf,IntKind.min,IntKind.max,IntKind.signed,IntKind.bits] using h
structure NumIn (n d:Int) (b:Nat):Prop where
 wn:(Lit.int .i64 n).wf=true
 wd:(Lit.int .i64 d).wf=true
 wb:(Lit.int .u8 (b:Int)).wf=true
theorem NumIn.n1 {n d:Int} {b:Nat} (h:NumIn n d b):-9223372036854775808≤n:=(i64_bounds h.wn).1
theorem NumIn.n2 {n d:Int} {b:Nat} (h:NumIn n d b):n≤9223372036854775807:=(i64_bounds h.wn).2
theorem NumIn.d1 {n d:Int} {b:Nat} (h:NumIn n d b):-9223372036854775808≤d:=(i64_bounds h.wd).1
theorem NumIn.d2 {n d:Int} {b:Nat} (h:NumIn n d b):d≤9223372036854775807:=(i64_bounds h.wd).2
theorem NumIn.b1 {n d:Int} {b:Nat} (h:NumIn n d b):b<256:=by have:=(u8_bounds h.wb).2;omega
end
end
section
open Go.RowKit Go.Sort
theorem val_odd (xs:List Nat) (h:1≤xs.length):val xs % 2=xs[0]?.getD 0 % 2:=by
 match xs,h with
 | x :: r,_ =>
  rw [val_cons]
  show (x+B64*val r) % 2=x % 2
  unfold B64
  omega
theorem isOdd_word (x:Nat) (hx:x<B64) (w:World):Calls Tryz.prog 270 #[.agg #[.int .u64 (x:Int),.slice none 0 0]] w (RetI w (.bool (x % 2 == 1))):=by
 have hn:=someSlice_run
 have ho:=and_one x hx
 have h2:(((x % 2:Nat):Int) == 1)=(x % 2 == 1):=by rw [Bool.eq_iff_iff,beq_iff_eq,beq_iff_eq];omega
 obtain ⟨z,hz⟩:∃ z,x % 2=z:=⟨_,rfl⟩
 obtain ⟨t,ht⟩:∃ t,(x % 2 == 1)=t:=⟨_,rfl⟩
 rw [ht] at h2 ⊢
 rw [hz] at ho h2
 clear hz ht hx
 go_enter Tryz.func270,Tryz.ntmps270
 go_wp2
 go_ret
 exact ⟨by rw [← h2];rfl,(Below.refl _ _).alloc (Nat.le_refl _) _⟩
theorem isOdd_long (b o l k x:Nat) (w:World) (hb:b<w.heap.size) (hl:2≤l) (hs:l≤1099511627776) (cx:w.cell? ⟨b,o,none⟩=some (.int .u64 (x:Int))) (hx:x<B64):Calls Tryz.prog 270 #[.agg #[.int .u64 0,.slice (some ⟨b,o,none⟩) l k]] w (RetI w (.bool (x % 2 == 1))):=by
 have hn:=someSlice_run
 have ho:=and_one x hx
 have h2:(((x % 2:Nat):Int) == 1)=(x % 2 == 1):=by rw [Bool.eq_iff_iff,beq_iff_eq,beq_iff_eq];omega
 obtain ⟨z,hz⟩:∃ z,x % 2=z:=⟨_,rfl⟩
 obtain ⟨t,ht⟩:∃ t,(x % 2 == 1)=t:=⟨_,rfl⟩
 have hne:¬ w.heap.size=b:=by omega
 rw [ht] at h2 ⊢
 rw [hz] at ho h2
 clear hz ht hx
 go_enter Tryz.func270,Tryz.ntmps270
 go_wp2
 go_ret
 exact ⟨by rw [← h2];rfl,(Below.refl _ _).alloc (Nat.le_refl _) _⟩
theorem isOdd_calls (c d:Value) (n k:Nat) (w:World) (h:IsMag w c d n) (hk:k≤1099511627776) (hn:n<B64 ^ k):Calls Tryz.prog 270 #[.agg #[c,d]] w (RetI w (.bool (n % 2 == 1))):=by
 rcases h with ⟨h0,rfl,rfl⟩ | ⟨b,o,m,xs,rfl,rfl,h3,h4,h5,h6,h7,h8,h9⟩
 ·exact isOdd_word n h0 w
 ·have:=h9 0 (by omega)
  rw [Nat.add_zero] at this
  rw [← h8,val_odd xs (by omega)]
  exact isOdd_long b o xs.length m _ w h3 h4 (Nat.le_trans (len_le h7 (by rw [h8];exact hn)) hk) this (h6.getD 0)
end
namespace Rx.Ry
open Go.RowKit
def fen:Option Nat→Fence
 | none=>Fence.wide
 | some l=>Fence.wide.inRound l
theorem fen_round (ro:Option Nat):(fen ro).round=ro:=by cases ro <;> rfl
theorem fen_fn (ro:Option Nat) (f:FuncId):(fen ro).fn f:=by cases ro <;> trivial
theorem fen_depth {ro:Option Nat} {p:Prop} (h:(fen ro).depth.isSome=true):p:=by cases ro <;> simp [fen,Fence.wide,Fence.inRound] at h
variable {P:Program} {ro:Option Nat} {n:Nat}
theorem fen_calls {f:FuncId} {args:Array Value} {w:World} {R:Ending→World→Prop} (h:Calls P f args w R):CallsIn (fen ro) n P f args w R:=by
 cases ro with
 | none=>exact callsIn_wide.2 h
 | some l=>exact callsIn_wide.2 h
theorem fen_rounds {l m:Nat} {f:FuncId} {tm:Array Value} {x y:Code} {w:World} {R:Ending→World→Prop} (h:RoundIn Fence.wide m P l f tm x y w R):RoundIn (fen ro) n P l f tm x y w R:=by
 cases ro with
 | none=>exact ⟨h.1,fun c cs _=>h.2 c cs (room_wide _)⟩
 | some l=>exact ⟨h.1,fun c cs _=>h.2 c cs (room_wide _)⟩
def tkU (P:Program) (K:Value→World→Prop):Result Next→Prop
 | .ok (.value v) w'=>K v w'
 | .ok .skip w'=>K undef w'
 | .ok (.enter f args) w'=>Calls P f args w' fun e w''=>∃ v,e=.returned v∧K v w''
 | .ok (.round l f tm x y) w'=>RoundIn Fence.wide 0 P l f tm x y w' fun e w''=>∃ v,e=.returned v∧K v w''
 | _=>False
def tk (P:Program) (o:Oper) (a:Act) (w:World) (K:Value→World→Prop):Prop:=tkU P K ((execOp a.eval o).run P w)
theorem tk_of_takes {o:Oper} {a:Act} {w:World} {K:Value→World→Prop} (h:takes P o a w K):tk P o a w K:=by
 unfold takes at h
 unfold tk
 generalize (execOp a.eval o).run P w=r at *
 cases r with
 | ok x w'=>cases x <;> simp only [takesUpon] at h <;> exact h
 | halt x w'=>simp only [takesUpon] at h
theorem tk_mono {o:Oper} {a:Act} {w:World} {K K':Value→World→Prop} (h:tk P o a w K) (hK:∀ v w,K v w→K' v w):tk P o a w K':=by
 unfold tk at h ⊢
 generalize (execOp a.eval o).run P w=r at *
 cases r with
 | ok x w' =>
  cases x <;> simp only [tkU] at h ⊢
  case value v=>exact hK _ _ h
  case skip=>exact hK _ _ h
  case enter f args=>exact h.mono fun e w'' ⟨v,he,hk⟩=>⟨v,he,hK _ _ hk⟩
  case round l f tm x y=>exact h.mono fun e w'' ⟨v,he,hk⟩=>⟨v,he,hK _ _ hk⟩
 | halt x w'=>simp only [tkU] at h
theorem tk_defer {o:Oper} {a:Act} {w:World} {K:Value→World→Prop} (h:tk P o a w K) (c:Call):o.op≠.defer c:=fun e=>by
 unfold tk execOp at h
 rw [e] at h
 simp only [Sem.run_bind] at h
 generalize (resolve a.eval c o.type).run P w=r at h
 cases r <;> exact h
theorem wpIn_of_tk {o:Oper} {a:Act} {w:World} {K:Value→World→Prop} {next:Act→World→Prop} {Q:Exit→Act→World→Prop} (h:tk P o a w K) (hK:∀ v w',K v w'→next (a.put o.dst v) w'):o.wpIn (fen ro) n P a w next Q:=by
 refine ⟨fun f _=>fen_fn ro f,?_⟩
 rw [Oper.semAt_eq _ _ _ (tk_defer h)]
 unfold tk at h
 generalize (execOp a.eval o).run P w=r at *
 cases r with
 | ok x w' =>
  cases x <;> simp only [tkU] at h <;> simp only [Oper.uponIn]
  case value v=>exact hK _ _ h
  case skip=>exact hK _ _ h
  case enter f args=>exact ⟨fun h=>fen_depth h,(fen_calls h).mono fun e w'' ⟨v,he,hk⟩=>by subst he;exact hK _ _ hk⟩
  case round l f tm x y=>exact ⟨fun h=>fen_depth h,(fen_rounds h).mono fun e w'' ⟨v,he,hk⟩=>by subst he;exact hK _ _ hk⟩
 | halt x w'=>simp only [tkU] at h
def StepY (P:Program) (l:List Oper) (J:(Nat→Bool)→Act→World→Prop):Prop:=
 ∀ (dn:Nat→Bool) a W i o,l[i]? = some o→dn i=false→(∀ e∈o.after,Region.binds .any e=true→dn e.on=true)→Closed l dn→J dn a W →
  if Region.wanted o (yielded l.toArray a.tmps) then tk P o a W (fun v W'=>J (more dn i) (a.put o.dst v) W') else J (more dn i) (a.put o.dst undef) W
theorem wpOpIn_of_step {l:List Oper} {J:(Nat→Bool)→Act→World→Prop} {Q:Exit→Act→World→Prop} (hs:StepY P l J) {dn:Nat→Bool} {a:Act} {W:World} {i:Nat} {o:Oper} (ho:l[i]? = some o) (hd:dn i=false)
  (hw:∀ e∈o.after,Region.binds .any e=true→dn e.on=true) (hc:Closed l dn) (hJ:J dn a W) {K:Act→World→Prop} (hK:∀ a' W',J (more dn i) a' W'→K a' W'):wpOpIn (fen ro) n P l.toArray Q i K a W:=by
 have h:=hs dn a W i o ho hd hw hc hJ
 unfold wpOpIn
 rw [show l.toArray[i]? = some o by simpa using ho]
 simp only
 split
 ·rename_i hh
  rw [if_pos hh] at h
  exact wpIn_of_tk h fun v w' h'=>hK _ _ h'
 ·rename_i hh
  rw [if_neg hh] at h
  exact ⟨fun f _=>fen_fn ro f,hK _ _ h⟩
theorem anyIn_of {l:List Oper} {J:(Nat→Bool)→Act→World→Prop} {Q:Exit→Act→World→Prop} (hl:lexB 0 l=true) (hs:StepY P l J) (hE:∀ dn a W,(∀ k,k<l.length→dn k=true)→J dn a W→Q .normal a W) :
  ∀ (f:Nat) (listed:Array Bool) (dn:Nat→Bool) (a:Act) (W:World),listed.size=l.length→(∀ k,k<l.length→dn k=listed.getD k true)→Closed l dn→J dn a W→left listed l.length=f →
   wpAnyIn (fen ro) n P .any l.toArray Q f listed a W:=by
 intro f
 induction f with
 | zero =>
  intro listed dn a W hsz hdn hc hJ hleft
  have hall:=left_zero hleft
  refine ⟨?_,hE dn a W (fun k hk=>by rw [hdn k hk];exact hall k hk) hJ⟩
  apply List.eq_nil_iff_forall_not_mem.2
  intro i hi
  obtain ⟨h1,o,ho,_⟩:=mem_ready.1 hi
  have hlt:i<l.length:=by have:=(Array.getElem?_eq_some_iff.1 ho).1;simpa using this
  rw [hall i hlt] at h1
  cases h1
 | succ f ih =>
  intro listed dn a W hsz hdn hc hJ hleft
  obtain ⟨i0,hi0,hu0,hm0⟩:=left_pos (listed:=listed) (n:=l.length) (by omega)
  have hready0:i0∈Region.ready .any l.toArray listed:=by
   have ho:l[i0]? = some l[i0]:=List.getElem?_eq_getElem hi0
   refine mem_ready.2 ⟨hu0,l[i0],by simp [hi0],fun e he hb=>?_⟩
   have hlx:=lexB_get hl ho e he hb
   have h1:=hm0 e.on (by omega)
   have hlt:e.on<listed.size:=by omega
   simpa [hlt] using h1
  refine ⟨fun h0=>(by rw [h0] at hready0;cases hready0),fun i hi=>?_⟩
  obtain ⟨hun,o,ho,hdone⟩:=mem_ready.1 hi
  have ho':l[i]? = some o:=by simpa using ho
  have hlt:i<l.length:=(List.getElem?_eq_some_iff.1 ho').1
  have hisz:i<listed.size:=by omega
  have hw:∀ e∈o.after,Region.binds .any e=true→dn e.on=true:=fun e he hb=>by
   have h1:=hdone e he hb
   have hlx:=lexB_get hl ho' e he hb
   have hk:e.on<l.length:=by omega
   have hk2:e.on<listed.size:=by omega
   rw [hdn e.on hk]
   simpa [hk2] using h1
  refine wpOpIn_of_step hs ho' (by rw [hdn i hlt];exact hun) hw hc hJ fun a' W' hJ'=>?_
  refine ih _ (more dn i) a' W' (by simp [hsz]) (fun k hk=>?_) (hc.more ho' hw) hJ' (by have:=left_set hisz hun hlt;omega)
  unfold more
  by_cases e:k=i
  ·subst e;simp [hisz]
  ·rw [getD_set_ne true (Ne.symm e),hdn k hk,beq_false_of_ne e,Bool.or_false]
theorem seqIn_of {l:List Oper} {J:(Nat→Bool)→Act→World→Prop} {Q:Exit→Act→World→Prop} (hl:lexB 0 l=true) (hs:StepY P l J) (hE:∀ dn a W,(∀ k,k<l.length→dn k=true)→J dn a W→Q .normal a W) :
  ∀ (m i:Nat) (dn:Nat→Bool) (a:Act) (W:World),i+m=l.length→(∀ k,dn k=decide (k<i))→Closed l dn→J dn a W→wpOpsIn (fen ro) n P l.toArray Q (List.range' i m) a W:=by
 intro m
 induction m with
 | zero =>
  intro i dn a W hi hdn _ hJ
  exact hE dn a W (fun k hk=>by rw [hdn];simp;omega) hJ
 | succ m ih =>
  intro i dn a W hi hdn hc hJ
  rw [List.range'_succ,wpOpsIn_cons]
  have hlt:i<l.length:=by omega
  have ho:l[i]? = some l[i]:=by simp [hlt]
  have hw:∀ e∈l[i].after,Region.binds .any e=true→dn e.on=true:=fun e he hb=>by
   have:=lexB_get hl ho e he hb
   rw [hdn];simp;omega
  refine wpOpIn_of_step hs ho (by rw [hdn];simp) hw hc hJ fun a' W' hJ'=>?_
  refine ih (i+1) (more dn i) a' W' (by omega) (fun k=>?_) (hc.more ho hw) hJ'
  unfold more
  rw [hdn,Bool.eq_iff_iff]
  simp
  omega
theorem regionIn_of {id:Nat} {b:Bool} {l:List Oper} {a0:Act} {w:World} {J:(Nat→Bool)→Act→World→Prop} {Q:Exit→Act→World→Prop} (hm:P.follows .mixedOrders=true) (hl:lexB 0 l=true) (hs:StepY P l J)
  (h0:J (fun _=>false) a0 w) (h1:J (fun _=>false) a0 w.drew) (hE:∀ dn a W,(∀ k,k<l.length→dn k=true)→J dn a W→Q .normal a W):(Code.region id l.toArray b).wpIn (fen ro) n P Q a0 w:=by
 have hc:Closed l (fun _=>false):=fun _ _ _ h=>by cases h
 cases b with
 | false =>
  refine wpIn_region ?_
  rw [List.range_eq_range']
  exact seqIn_of hl hs hE _ 0 _ a0 w (by simp) (fun k=>by simp) hc h0
 | true =>
  refine wpIn_region_any hm ?_
  refine anyIn_of hl hs hE _ _ (fun _=>false) a0 w.drew (by simp) (fun k hk=>?_) hc h1 ?_
  ·exact (getD_in (by simpa using hk) (getD_replicate_false _ _)).symm
  ·have:=left_all l.length 0 l.length (Nat.le_refl _)
   simpa using this
theorem wpIn_scope_straight {c:Code} {a:Act} {w:World} {Q:Exit→Act→World→Prop} (h:c.wpIn (fen ro) n P (Exit.noGoto Q) a w):(Code.scope c).wpIn (fen ro) n P Q a w:=by
 intro b k cs hro hb hr
 obtain ⟨e,a₁,w₁,hq,harr⟩:=h b (.inScope c :: k) cs hro hb hr
 have s0:StepsIn (Machine.fenced P (fen ro)) P (lone (b.atR a (.code (.scope c) :: k)) cs w) (lone (b.atR a (.code c :: .inScope c :: k)) cs w):=
  .one (fenced_calm hb hr rfl) (step_lone_go (by simp [stepG,stepG.exec,Frame.atR]))
 cases e with
 | normal=>exact ⟨.normal,a₁,w₁,hq,StepsIn.trans s0 (StepsIn.trans harr (.one (fenced_calm hb hr rfl) (step_lone_go (by simp [stepG,stepG.exec,Frame.atR]))))⟩
 | exit id=>exact ⟨_,a₁,w₁,hq,.of_steps s0 ⟨fun k' hk=>harr.1 k' (by simpa [exitTo] using hk),fun hr' hk=>harr.2 hr' (by simpa [exitTo] using hk)⟩⟩
 | goto l=>exact hq.elim
 | ret=>exact ⟨.ret,a₁,w₁,hq,.of_steps s0 harr⟩
 | panic ch=>exact ⟨.panic ch,a₁,w₁,hq,.of_steps s0 harr⟩
 | outgrown=>exact ⟨.outgrown,a₁,w₁,hq,.of_steps s0 harr⟩
end Rx.Ry
end Go.Proofs.YtmijlcldmefggaaGreatDoor
