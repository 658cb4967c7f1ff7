/- What the proof rests on, part 20. -/
import Derived.Test.YteeelpcgbenjjaaGreatDoorP19
import Derived.Test.YteeelpcgbenjjaaGreatDoorP10
import Derived.Test.YteeelpcgbenjjaaGreatDoorP16
import Derived.Test.YteeelpcgbenjjaaGreatDoorP02
import Derived.Test.YteeelpcgbenjjaaGreatDoorRows
import Derived.ProofKit
import Derived.Handy
import Derived.Lay
import Derived.SevenTiedAt
import Derived.Lib.SmallJoins
import Derived.Stop.LaidErr
import Derived.Shelf.Vars
namespace Go.Proofs.YteeelpcgbenjjaaGreatDoor
set_option maxRecDepth 100000
set_option maxHeartbeats 80000000
section
open Go.RowKit Go.Sort
attribute [local go_sem] takes takesUpon_value takesUpon_skip takesUpon_enter
def dv (l:List UInt8):Nat:=l.foldl (fun a x=>a*10+(x.toNat - 48)) 0
theorem dv_snoc (l:List UInt8) (x:UInt8):dv (l ++ [x])=dv l*10+(x.toNat - 48):=by simp [dv]
theorem foldl_dv (r:List UInt8):∀ a:Nat,r.foldl (fun a x=>a*10+(x.toNat - 48)) a=a*10 ^ r.length+dv r:=by
 unfold dv
 induction r with
 | nil=>intro a;simp
 | cons x r ih =>
  intro a
  rw [List.foldl_cons,ih,List.foldl_cons,ih (0*10+(x.toNat - 48)),List.length_cons,Nat.pow_succ]
  grind
theorem dv_append (l r:List UInt8):dv (l ++ r)=dv l*10 ^ r.length+dv r:=by
 conv=>lhs;unfold dv
 rw [List.foldl_append]
 exact foldl_dv r (dv l)
theorem dv_lt (l:List UInt8) (h:l.all digB=true):dv l<10 ^ l.length:=by
 induction l with
 | nil=>decide
 | cons x l ih =>
  simp only [List.all_cons,Bool.and_eq_true] at h
  have h1:=ih h.2
  have h2:=h.1
  simp only [digB,decide_eq_true_eq] at h2
  have h3:dv (x :: l)=(x.toNat - 48)*10 ^ l.length+dv l:=by
   have:=dv_append [x] l
   rw [List.singleton_append] at this
   rw [this]
   show (0*10+(x.toNat - 48))*_+_=_
   rw [Nat.zero_mul,Nat.zero_add]
  have h4:(x.toNat - 48)*10 ^ l.length≤9*10 ^ l.length:=Nat.mul_le_mul_right _ (by omega)
  rw [h3,List.length_cons,Nat.pow_succ]
  omega
theorem dv_take (r:List UInt8) (j:Nat) (hj:j<r.length) (h:r.all digB=true):dv (r.take (j+1))=dv (r.take j)*10+(r[j].toNat - 48)∧48≤r[j].toNat∧r[j].toNat≤57∧dv (r.take j)<10 ^ j:=by
 rw [List.take_succ_eq_append_getElem hj,dv_snoc]
 have h1:=List.all_eq_true.1 h _ (List.getElem_mem hj)
 simp only [digB,decide_eq_true_eq] at h1
 refine ⟨rfl,h1.1,h1.2,?_⟩
 have:=dv_lt (r.take j) (by rw [List.all_eq_true];intro y hy;exact List.all_eq_true.1 h y (List.mem_of_mem_take hy))
 rwa [List.length_take,Nat.min_eq_left (by omega)] at this
theorem ten_lt {m K:Nat} (h:m<K):10 ^ m<B64 ^ K:=
 Nat.lt_of_lt_of_le (Nat.pow_lt_pow_right (by decide) h) (Nat.pow_le_pow_left (by unfold B64;decide) K)
theorem all_take {r:List UInt8} (h:r.all digB=true) (n:Nat):(r.take n).all digB=true:=by
 rw [List.all_eq_true];intro y hy;exact List.all_eq_true.1 h y (List.mem_of_mem_take hy)
theorem extract_drop (r:List UInt8) (j:Nat):(⟨r.toArray⟩:ByteArray).extract j r.length=⟨(r.drop j).toArray⟩:=by
 apply ByteArray.ext
 rw [ByteArray.data_extract]
 simp [List.take_of_length_le]
def strLen:Value→Nat
 | .string s=>s.size
 | _=>0
theorem magOf_calls (l:List UInt8) (w:World) (hd:l.all digB=true) (hl:l.length≤1000000):Calls Tryz.prog 105 #[.string ⟨l.toArray⟩] w (RetM w (dv l)):=by
 have HD:=hid hd
 clear hd
 go_enter Tryz.func105,Tryz.ntmps105
 go_wp2_with fail
 have hS0:=hid (((St.start w).alloc' (w.heap.size) (by simp) 28 [.int .u64 0,.slice none 0 0]).alloc' (w.heap.size+1) (by simp) 28 [.int .u64 0,.slice none 0 0])
 obtain ⟨W0,hW0⟩:=nameW hS0
 rw [hW0] at hS0 ⊢
 clear hW0
 go_wp2_with fail
 go_loopw [0] (fun sv wr=>∃ (t r:List UInt8) (x1:Int) (p1:Option Addr) (l1 q1:Nat),sv=.string ⟨r.toArray⟩∧l=t ++ r∧St w [⟨w.heap.size+1,28,[.int .u64 x1,.slice p1 l1 q1]⟩,⟨w.heap.size,28,[.int .u64 0,.slice none 0 0]⟩] [.m (.int .u64 x1) (.slice p1 l1 q1) (dv t)] wr) (fun sv _=>strLen sv)
 case atStart=>exact ⟨[],l,0,none,0,0,rfl,rfl,hS0.out.fact (.m (.int .u64 0) (.slice none 0 0) (dv [])) (isMag_lit _ 0 (by decide))⟩
 case round =>
  clear hS0
  obtain ⟨t,r,x1,p1,l1,q1,rfl,htr,hSt⟩:=hrel
  have HS:=hid hSt
  have HTR:=hid htr
  clear hSt
  have hrl:r.length≤1000000:=by rw [htr,List.length_append] at hl;omega
  have HDr:=hid (show r.all digB=true by have:=HD.out;rw [htr,List.all_append,Bool.and_eq_true] at this;exact this.2)
  clear htr
  by_cases hlt:0<r.length
  ·go_wp2_with fail
   obtain ⟨n,hn,hn19,hnr,hn1⟩:∃ n:Nat,min (19:Int) (r.length:Int)=(n:Int)∧n≤19∧n≤r.length∧1≤n:=⟨min 19 r.length,by omega,by omega,by omega,by omega⟩
   rw [hn]
   clear hn
   go_loop [5,14] (fun pv iv=>∃ j:Nat,iv=.int .i64 (j:Int)∧j≤n∧pv=.int .u64 ((dv (r.take j):Nat):Int)) (fun _ iv=>n - (intOf iv).toNat)
   case atStart=>exact ⟨0,rfl,Nat.zero_le _,rfl⟩
   case round =>
    obtain ⟨j,rfl,hj,rfl⟩:=hrel
    by_cases hlt2:j<n
    ·have hjr:j<r.length:=by omega
     have ht:=dv_take r j hjr HDr.out
     obtain ⟨V,hV⟩:∃ V,dv (r.take j)=V:=⟨_,rfl⟩
     obtain ⟨x,hx⟩:∃ x,r[j]=x:=⟨_,rfl⟩
     have hp:(10:Nat) ^ j≤10 ^ 18:=Nat.pow_le_pow_right (by decide) (by omega)
     have hi2:((⟨r.toArray⟩:ByteArray)[j]'(by simpa [ByteArray.size] using hjr)).toNat=x.toNat:=by rw [← hx];rfl
     rw [hV,hx] at ht
     obtain ⟨ht1,ht2,ht3,ht4⟩:=ht
     have hV18:V<1000000000000000000:=by omega
     have HT1:=hid ht1
     rw [hV]
     clear ht1 ht4 hp hx hV
     obtain ⟨X,hX⟩:∃ X,x.toNat=X:=⟨_,rfl⟩
     rw [hX] at hi2 ht2 ht3 HT1
     clear hX
     have hcj:(j:Int)<(n:Int):=by omega
     go_wp2_with fail
     exact ⟨⟨j+1,by simp,by omega,by rw [HT1.out];congr 1;omega⟩,by simp [intOf];omega⟩
    ·obtain rfl:j=n:=by omega
     have hcj:¬ ((j:Int)<(j:Int)):=by omega
     obtain ⟨KK,hKK⟩:∃ KK,KK=1000020:=⟨_,rfl⟩
     have hKKb:KK≤17179869184:=by omega
     have hjl:t.length+r.length≤1000000:=by have:=congrArg List.length HTR.out;rw [List.length_append] at this;omega
     have hb1:dv t<10 ^ t.length:=dv_lt t (by have:=HD.out;rw [HTR.out,List.all_append,Bool.and_eq_true] at this;exact this.1)
     have hb2:dv (r.take j)<10 ^ j:=by have:=dv_lt (r.take j) (all_take HDr.out j);rwa [List.length_take,Nat.min_eq_left hnr] at this
     have HK1:=hid (Nat.lt_trans hb1 (ten_lt (K:=KK) (by omega)))
     have HK2:=hid (ten_lt (m:=j) (K:=KK) (by omega))
     have HK3:=hid (show dv t*10 ^ j<B64 ^ KK by have h1:=ten_lt (m:=t.length+j) (K:=KK) (by omega);rw [Nat.pow_add] at h1;exact Nat.lt_of_le_of_lt (Nat.mul_le_mul_right _ (Nat.le_of_lt hb1)) h1)
     have HV:=hid (show dv (r.take j)<B64 by have h1:(10:Nat) ^ j≤10 ^ 19:=Nat.pow_le_pow_right (by decide) hn19;exact Nat.lt_of_lt_of_le (Nat.lt_of_lt_of_le hb2 h1) (by decide))
     have HTT:=hid (show dv t*10 ^ j+dv (r.take j)=dv (t ++ r.take j) by rw [dv_append,List.length_take,Nat.min_eq_left hnr])
     have HVK:=hid (show dv (r.take j)<B64 ^ KK from Nat.lt_trans hb2 (ten_lt (by omega)))
     clear hb1 hb2 hKK
     obtain ⟨V,hV⟩:∃ V,dv (r.take j)=V:=⟨_,rfl⟩
     rw [hV] at HV HVK HTT ⊢
     clear hV
     go_wp2_with fail
     have LM0:=hid (fun (W:World) (h:Below wr.heap.size wr W)=>((HS.out.call h).f2 0 (w.heap.size+1) 28 (.int .u64 x1) (.slice p1 l1 q1) rfl).1)
     refine wp_region_inv 7 [⟨[],[0]⟩,⟨[],[1]⟩,⟨[1],[2]⟩,⟨[0,2],[3]⟩,⟨[],[4]⟩,⟨[4],[5]⟩,⟨[3,5],[6]⟩]
      [oE (.agg #[.int .u64 x1,.slice p1 l1 q1]),oE (.int .i64 (j:Int)),one (MagV (10 ^ j)),one (MagV (dv t*10 ^ j)),oE (.int .u64 (V:Int)),oE (.agg #[.int .u64 (V:Int),.slice none 0 0]),one (MagV (dv t*10 ^ j+V))]
      (fun _ W=>Below wr.heap.size wr W) (by kernel_rfl) (by kernel_rfl) ?hTW1 ?hZW1 ?hOW1 ?hEW1
     case hZW1=>exact (Below.refl _ _).drew
     case hTW1 =>
      simp only [List.forall_mem_cons,List.not_mem_nil,false_imp_iff,implies_true,and_true]
      exact ⟨bE,bE,one_below magV_below,one_below magV_below,bE,bE,one_below magV_below⟩
     case hOW1 =>
      intro u
      simp only [List.take_succ_cons,List.take_zero,putAll]
      repeat' (first | with_reducible exact debts_nil | with_reducible refine debts_cons ?_ ?_)
      ·intro W hS hF K hK
       have hcS:=LM0.out W hS
       go_simp
       exact hK _ _ (.refl _ _) hS rfl
      ·intro W hS hF K hK
       go_simp
       exact hK _ _ (.refl _ _) hS rfl
      ·intro W hS hF K hK
       have h1:u 1=.int .i64 (j:Int):=hF.1
       clear hF
       go_simp
       refine (pow10_calls j KK _ HK2.out (by omega)).mono ?_
       rintro e wA ⟨c,d,rfl,hm,hBA⟩
       obtain ⟨xx,pp,ll,qq,rfl,rfl⟩:=hm.shape
       exact ⟨_,rfl,hK _ _ hBA (hS.trans (hBA.mono hS.size)) ⟨_,_,_,_,rfl,hm⟩⟩
      ·intro W hS hF K hK
       have h0:u 0=.agg #[.int .u64 x1,.slice p1 l1 q1]:=hF.1
       obtain ⟨x2,p2,l2,q2,h2,m2⟩:MagV (10 ^ j) (u 2) W:=hF.2.1
       have sH:=hid (HS.out.call hS)
       clear hF
       go_simp
       refine (mtimes_calls (dv t) (10 ^ j) KK _ _ _ _ _ (sH.out.get (f:=.m (.int .u64 x1) (.slice p1 l1 q1) (dv t)) 0 rfl) m2 (by omega) HK1.out HK2.out).mono ?_
       rintro e wA ⟨c,d,rfl,hm,hBA⟩
       obtain ⟨xx,pp,ll,qq,rfl,rfl⟩:=hm.shape
       exact ⟨_,rfl,hK _ _ hBA (hS.trans (hBA.mono hS.size)) ⟨_,_,_,_,rfl,hm⟩⟩
      ·intro W hS hF K hK
       go_simp
       exact hK _ _ (.refl _ _) hS rfl
      ·intro W hS hF K hK
       have h4:u 4=.int .u64 (V:Int):=hF.1
       clear hF
       go_simp
       exact hK _ _ (.refl _ _) hS rfl
      ·intro W hS hF K hK
       obtain ⟨x3,p3,l3,q3,h3,m3⟩:MagV (dv t*10 ^ j) (u 3) W:=hF.1
       have h5:u 5=.agg #[.int .u64 (V:Int),.slice none 0 0]:=hF.2.1
       clear hF
       go_simp
       refine (mplus_calls (dv t*10 ^ j) V KK _ _ _ _ _ m3 (isMag_lit _ V HV.out) (by omega) HK3.out HVK.out).mono ?_
       rintro e wA ⟨c,d,rfl,hm,hBA⟩
       obtain ⟨xx,pp,ll,qq,rfl,rfl⟩:=hm.shape
       exact ⟨_,rfl,hK _ _ hBA (hS.trans (hBA.mono hS.size)) ⟨_,_,_,_,rfl,hm⟩⟩
     case hEW1 =>
      intro u W1 hS hF
      have hS1:=hid (HS.out.call hS)
      obtain ⟨x6,p6,l6,q6,e6,m6⟩:MagV (dv t*10 ^ j+V) (u 6) W1:=hF.2.2.2.2.2.2.1
      clear hF hS
      rw [HTT.out] at m6
      have hS2:=hid (hS1.out.fact (.m (.int .u64 x6) (.slice p6 l6 q6) (dv (t ++ r.take j))) m6)
      clear hS1 m6
      obtain ⟨⟨cS0,cS1⟩,fS0,fS1⟩:=hS2.out.f2 0 (w.heap.size+1) 28 (.int .u64 x1) (.slice p1 l1 q1) rfl
      simp only [List.take_succ_cons,List.take_zero,putAll,List.drop_succ_cons,List.drop_zero]
      go_wp2_with fail
      clear cS0 cS1 fS0 fS1
      have hJ:=hid ((((hS2.out).store (b:=⟨w.heap.size+1,28,[.int .u64 x1,.slice p1 l1 q1]⟩) 0 0 (.int .u64 x6) rfl rfl).store (b:=⟨w.heap.size+1,28,[.int .u64 x6,.slice p1 l1 q1]⟩) 0 1 (.slice p6 l6 q6) rfl rfl).as [⟨w.heap.size+1,28,[.int .u64 x6,.slice p6 l6 q6]⟩,⟨w.heap.size,28,[.int .u64 0,.slice none 0 0]⟩] rfl)
      rw [extract_drop]
      exact ⟨⟨t ++ r.take j,r.drop j,x6,p6,l6,q6,rfl,by rw [List.append_assoc,List.take_append_drop];exact HTR.out,⟨hJ.out.bel,hJ.out.box,(hJ.out.get (f:=.m (.int .u64 x6) (.slice p6 l6 q6) (dv (t ++ r.take j))) 0 rfl),trivial⟩⟩,by simp only [strLen,ByteArray.size,List.size_toArray,List.length_drop];omega⟩
  ·have h0:r=[]:=List.length_eq_zero_iff.1 (by omega)
   subst h0
   have hlt0:t=l:=by have:=HTR.out;rw [List.append_nil] at this;exact this.symm
   rw [hlt0] at HS
   clear hlt0 HTR HDr hlt hrl
   obtain ⟨⟨cS0,cS1⟩,fS0,fS1⟩:=HS.out.f2 0 (w.heap.size+1) 28 (.int .u64 x1) (.slice p1 l1 q1) rfl
   obtain ⟨⟨cR0,cR1⟩,fR0,fR1⟩:=HS.out.f2 1 w.heap.size 28 (.int .u64 0) (.slice none 0 0) rfl
   have hS1:=hid ((((HS.out).store (b:=⟨w.heap.size,28,[.int .u64 0,.slice none 0 0]⟩) 1 0 (.int .u64 x1) rfl rfl).store (b:=⟨w.heap.size,28,[.int .u64 x1,.slice none 0 0]⟩) 1 1 (.slice p1 l1 q1) rfl rfl).as [⟨w.heap.size+1,28,[.int .u64 x1,.slice p1 l1 q1]⟩,⟨w.heap.size,28,[.int .u64 x1,.slice p1 l1 q1]⟩] rfl)
   go_wp2_with fail
   clear cS0 cS1 fS0 fS1 cR0 cR1 fR0 fR1
   obtain ⟨⟨zR0,zR1⟩,-⟩:=hS1.out.f2 1 w.heap.size 28 (.int .u64 x1) (.slice p1 l1 q1) rfl
   exact bodyPost_ret (v:=.agg #[.int .u64 x1,.slice p1 l1 q1]) (by simp [results,Tryz.results105,go_sem,zR0,zR1]) rfl ⟨_,_,rfl,(hS1.out.get (f:=.m (.int .u64 x1) (.slice p1 l1 q1) (dv l)) 0 rfl),hS1.out.bel⟩
end
section
open Go.RowKit Go.Sort
def TabM (w:World):Prop:=3<w.heap.size∧∃ m:Int,w.cell? ⟨3,0,none⟩=some (.int .i64 m)
theorem TabM.below {B:Nat} {w w':World} (h:TabM w) (hb:Below B w w') (hB:w.heap.size≤B):TabM w':=by
 obtain ⟨h1,m,h2⟩:=h
 exact ⟨Nat.lt_of_lt_of_le h1 hb.size,m,(hb.cell (p:=⟨3,0,none⟩) (Nat.lt_of_lt_of_le h1 hB)).trans h2⟩
structure Env (w:World):Prop where
 tz:Tab w
 ten:Tab10 w
 max:TabM w
theorem Env.below {B:Nat} {w w':World} (h:Env w) (hb:Below B w w') (hB:w.heap.size≤B):Env w':=⟨h.tz.below hb hB,h.ten.below hb hB,h.max.below hb hB⟩
theorem cutp_calls (l:List UInt8) (w:World):Calls Tryz.prog 101 #[.string ⟨l.toArray⟩,.string ⟨#[45]⟩] w
  fun e w'=>e=.returned (.tuple #[.string ⟨(Lib.trimPrefix l [45]).toArray⟩,.bool (Lib.hasPrefix l [45])])∧Below w.heap.size w w':=by
 refine (Tryz.strings_CutPrefix ⟨l.toArray⟩ ⟨#[45]⟩ w).mono ?_
 rintro e w' ⟨rfl,rfl⟩
 exact ⟨by simp,Below.refl _ _⟩
theorem cut_calls (l:List UInt8) (c:UInt8) (w:World) (hl:l.length≤1000000) (hM:TabM w):Calls Tryz.prog 102 #[.string ⟨l.toArray⟩,.string ⟨#[c]⟩] w
  fun e w'=>e=.returned (.tuple #[.string ⟨(Lib.cut l [c]).1.toArray⟩,.string ⟨(Lib.cut l [c]).2.1.toArray⟩,.bool (Lib.cut l [c]).2.2])∧Below w.heap.size w w':=by
 obtain ⟨-,m,hm⟩:=hM
 refine (Tryz.strings_Cut ⟨l.toArray⟩ ⟨#[c]⟩ m w (by simp [ByteArray.size];omega) hm).mono ?_
 rintro e w' ⟨rfl,n,rfl⟩
 exact ⟨by simp,below_drewN _ _⟩
end
section
open Go.ChangeShapes Go.WideShapes Go.ChangeAt Go.RowKit Go.Joins
def laidT:List (String×DataW Unit):=[("math/bits.deBruijn32tab",Rows.laid_math_bits_deBruijn32tab),("math/bits.deBruijn64tab",Rows.laid_math_bits_deBruijn64tab),("internal/strconv.uint64pow10",Rows.laid_internal_strconv_uint64pow10)]
theorem ownK:ownKnob Tryz.prog.godebug=none:=by kernel_rfl
theorem cell_lt {W:World} {b o:Nat} {v:Value} (h:W.cell? ⟨b,o,none⟩=some v):b<W.heap.size:=by
 rcases Nat.lt_or_ge b W.heap.size with hlt | hge
 ·exact hlt
 ·unfold World.cell? at h;simp only [Array.getElem?_eq_none hge] at h;cases h
theorem env_of {W:World} (hL:laidMetH Tryz.prog laidT W) (hS:W.ShapedOpen Tryz.prog):Env W:=by
 rw [MakeChecks.laidMetH_plain _ _ _ (by kernel_rfl)] at hL
 have t64:Lib.TabIs Tryz.prog W "math/bits.deBruijn64tab" .u8 (Lib.deBruijn64tab.map fun (n:Nat)=>(n:Int)):=
  Lib.tabIs_of_head (g:=0) (t:=190) (e:=5) (n:=64) (by kernel_rfl) (by kernel_rfl) Tryz.underlying190 Tryz.underlying5 (by kernel_rfl) (by kernel_rfl) (show laidMet Tryz.prog ((_,Lib.tabData .u8 _) :: _) W from Go.laidMet.tail hL)
 have t10:Lib.TabIs Tryz.prog W "internal/strconv.uint64pow10" .u64 Lib.pow10Tab:=
  Lib.tabIs_of_head (g:=4) (t:=214) (e:=24) (n:=20) (by kernel_rfl) (by kernel_rfl) Tryz.underlying214 Tryz.underlying24 (by kernel_rfl) (by kernel_rfl) (show laidMet Tryz.prog ((_,Lib.tabData .u64 _) :: _) W from Go.laidMet.tail (Go.laidMet.tail hL))
 have c64:TabAt 0 Lib.deBruijn64tab W:=fun j hj=>by
  have:=t64.cell (g:=0) (by kernel_rfl) j (by simpa using hj)
  rw [this]
  simp [List.getD,hj]
 have c10:=t10.cell (g:=4) (by kernel_rfl) 0 (by decide)
 obtain ⟨m,hm⟩:=cell_of_shapedOpen_int (g:=3) (t:=3) (zero:=#[.int .i64 0]) (k:=.i64) hS (of_decide_eq_true (by kernel_rfl)) (by kernel_rfl) rfl (by kernel_rfl) (by kernel_rfl) Tryz.underlying3
 exact ⟨⟨cell_lt (c64 0 (by decide)),c64⟩,⟨cell_lt c10,t10⟩,⟨cell_lt hm,m,hm⟩⟩
section
variable {H:Type} {enc:TypeId×Value→H}
theorem handed_shaped {C:Checked} {os:Os} {f:FuncId} {fn:Func} {s:ChangeSpec} {X:World→Prop} (hX:∀ w w':World,w.heap=w'.heap→X w→X w')
  (own:ownKnob C.prog.godebug=none) (started:os.Started) (noInit:C.prog.inits.idxOf? f=none) (hfn:C.prog.funcs[f]? = some fn)
  (witness:∃ (w:World) (tape:Tape) (i:Input),w.os=os∧(w.forCall tape i).Shaped C.prog∧i.vars=[]∧Input.okWide C.prog (w.forCall tape i) .any w.heap.size f i ∧
   ((s.pre enc C.prog fn [] false (w.forCall tape i).memory i.args∧X (w.forCall tape i).memory)∧sizedMet enc C.prog fn (OpenSpec.ofChange s) false (w.forCall tape i).memory i.args)∧({}:Assume).holds C.prog (lone (Frame.enter C.prog f i.args .normal) [] (w.forCall tape i)))
  (contract:∀ (W:World) (base:Nat) (args:Array Value) (ds gs:List (DataW H)) (before:List MemPlace),
   (∀ (j:Nat) t v,fn.params[j]? = some t→args[j]? = some v→Value.okWide C.prog W .any base t v) →
   DataW.Whole enc C.prog fn.params.toList s.vars false W args.toList ds gs before→W.ShapedOpen C.prog→X W →
   Calls C.prog f args W fun e W'=>∃ v,e=.returned v∧s.post enc C.prog fn false true false false W args v W') :
  ReturnsInHanded {} C os f .any (fun w args=>(s.pre enc C.prog fn [] false w args∧X w)∧sizedMet enc C.prog fn (OpenSpec.ofChange s) false w args) (s.post enc C.prog fn false true false false):=by
 refine returnsInHanded_of_calls own started noInit witness ?_
 intro w tape i _ hsh _ hok hpre _
 obtain ⟨_,_,_,fn',hfn',_,_,_,_,hval⟩:=hok
 have e:fn' = fn:=Option.some.inj (hfn'.symm.trans hfn)
 subst e
 obtain ⟨⟨⟨ds,gs,before,hw,hc⟩,hx⟩,hz⟩:=hpre
 have hw':=DataW.Whole.of_heap (w':=w.forCall tape i) (by rfl) hw
 refine (contract (w.forCall tape i) w.heap.size i.args ds gs before hval hw' hsh (hX _ _ (by rfl) hx)).mono fun e W' ⟨v,he,hp⟩=>?_
 subst he
 exact ChangeSpec.post_blind hp
theorem i64_bounds {n:Int} (h:(Lit.int .i64 n).wf=true):-9223372036854775808≤n∧n≤9223372036854775807:=by simpa [Lit.wf,IntKind.min,IntKind.max,IntKind.signed,IntKind.bits] using h
theorem u8_bounds {n:Int} (h:(Lit.int .u8 n).wf=true):0≤n∧n≤255:=by simpa [Lit.wf,IntKind.min,IntKind.max,IntKind.signed,IntKind.bits] using h
structure NumIn (n d:Int) (b:Nat):Prop where
 wn:(Lit.int .i64 n).wf=true
 wd:(Lit.int .i64 d).wf=true
 wb:(Lit.int .u8 (b:Int)).wf=true
theorem NumIn.n1 {n d:Int} {b:Nat} (h:NumIn n d b):-9223372036854775808≤n:=(i64_bounds h.wn).1
theorem NumIn.n2 {n d:Int} {b:Nat} (h:NumIn n d b):n≤9223372036854775807:=(i64_bounds h.wn).2
theorem NumIn.d1 {n d:Int} {b:Nat} (h:NumIn n d b):-9223372036854775808≤d:=(i64_bounds h.wd).1
theorem NumIn.d2 {n d:Int} {b:Nat} (h:NumIn n d b):d≤9223372036854775807:=(i64_bounds h.wd).2
theorem NumIn.b1 {n d:Int} {b:Nat} (h:NumIn n d b):b<256:=by have:=(u8_bounds h.wb).2;omega
end
end
end Go.Proofs.YteeelpcgbenjjaaGreatDoor
