/- What the proof rests on, part 37. -/
import Derived.Test.YtancpaiaoamjlaaGreatDoorZ36
namespace Go.Proofs.YtancpaiaoamjlaaGreatDoor
set_option maxRecDepth 100000
set_option maxHeartbeats 80000000
namespace Rx
open Go.RowKit
theorem Ez {k n:Nat} (hk:1≤k) (h:n<B64 ^ k):Fits k ((n:Nat):Rat):=by
 rw [show ((n:Nat):Rat)=(((n:Int)):Rat) from rfl]
 exact ⟨by rw [Rat.num_intCast];exact h,by rw [Rat.den_intCast];exact Nat.one_lt_pow (by omega) (by decide)⟩
theorem Ey (k:Nat) (hk:1≤k):Fits k 0:=Ez (n:=0) hk (Iw k)
theorem XM {l:List UInt8}:Fits 4096 (fU l).2:=by
 unfold fU
 by_cases hl:1000<l.length
 ·rw [if_pos hl];exact Ey 4096 (by decide)
 ·rw [if_neg hl]
  have o:=LW (l:=l) (by omega)
  generalize dM (Lib.trimPrefix l [45])=top at *
  generalize dZ (Lib.trimPrefix l [45])=bottom at *
  generalize prK l=K at *
  show Fits 4096 (K.res.2.ev (prB l (Lib.trimPrefix l [45]) top bottom))
  have htl:=o.tl
  have mg:∀ m:List UInt8,m.all aN=true→m.length≤1000→Fits 1001 ((dv m:Nat):Rat):=fun m h1 h2=>Ez (by decide) (Nat.lt_trans (ku m h1) (iJ (K:=1001) (Nat.lt_succ_of_le h2)))
  unfold PrK.res
  split
  ·exact Ey 4096 (by decide)
  ·rename_i hb
   simp only [Bool.or_eq_true,Bool.not_eq_true',Bool.and_eq_true,decide_eq_true_eq,not_or,not_and,Bool.not_eq_false] at hb
   obtain ⟨hbt,hbu⟩:=hb
   have ht:=oL (o.t.trans hbt)
   split
   ·exact Ey 4096 (by decide)
   ·have f1:Fits 1001 (K.sz.ev (prB l (Lib.trimPrefix l [45]) top bottom)):=by
     unfold PrK.sz
     split
     ·rename_i h
      have hd:=Ed ((o.u1 h).trans (hbu (by omega)))
      exact mg (top ++ bottom) (by rw [List.all_append,ht,hd];rfl) (by rw [List.length_append];omega)
     ·exact mg top ht (by omega)
    have f2:Fits 1001 (K.dn.ev (prB l (Lib.trimPrefix l [45]) top bottom)):=by
     unfold PrK.dn
     split
     ·rename_i h
      exact mg bottom (oL ((o.u0 h).trans (hbu (by omega)))) (by omega)
     ·split
      ·have hk:bottom.length<1001:=by omega
       exact Ez (k:=1001) (n:=10 ^ bottom.length) (by decide) (iJ (K:=1001) hk)
      ·exact Fits.mono (fits_int (n:=1) (by decide) (by decide)) (show 1≤1001 by decide)
    show Fits 4096 (RE.ev _ (if (K.neg && !K.z)=true then RE.div (.neg K.sz) K.dn else .div K.sz K.dn))
    split
    ·exact (f1.neg.over f2).mono (by decide)
    ·exact (f1.over f2).mono (by decide)
theorem X9 {l:List UInt8} {r:Rat} {b1 b2:Bool} (h1:b1=decide (2000<l.length)) (h2:b2=decide (1000<l.length)):(rdT b1 b2).Ok (bet [((enc l:Nat):Rat),((l.length:Int):Rat),r]):=by
 subst h1 h2
 refine ⟨fun p h=>(by cases h),fun p h=>(by cases h),?_⟩
 simp only [rdT,List.forall_mem_cons,List.not_mem_nil,false_imp_iff,implies_true,and_true]
 refine ⟨fun x y hx hy=>?_,fun x y hx hy=>?_⟩
 ·obtain rfl:x=(l.length:Int):=intCast_inj hx
  obtain rfl:y=2000:=intCast_inj hy
  exact decide_eq_decide.2 (by omega)
 ·obtain rfl:x=(l.length:Int):=intCast_inj hx
  obtain rfl:y=1000:=intCast_inj hy
  exact decide_eq_decide.2 (by omega)
theorem Ya {l:List UInt8} {r:Rat} (hl:l.length≤9223372036854775807):rdX.Ok (bet [((enc l:Nat):Rat),((l.length:Int):Rat),r]):=by
 have t0:txt ((RE.v 0).ev (bet [((enc l:Nat):Rat),((l.length:Int):Rat),r]))=l:=bI l
 refine ⟨fun p hp=>?_,fun p h=>(by cases h),fun p h=>(by cases h),fun p h=>(by cases h),fun p h=>(by cases h),fun p h=>(by cases h),fun p h=>(by cases h)⟩
 obtain rfl:=List.mem_singleton.1 hp
 rw [t0]
 exact ⟨hl,rfl⟩
theorem F7 {β:Nat→Rat}:rdH.Ok β:=⟨fun p h=>(by cases h),fun p h=>(by cases h),fun p h=>(by cases h),fun p hp=>(by obtain rfl:=List.mem_singleton.1 hp;exact NG),fun p h=>(by cases h)⟩
theorem F8 {l:List UInt8} (hl:l.length≤9223372036854775807) {W:World} (hE:EV W) {b1:Bool} {c:Nat} (hc:c<4) (h1:b1=decide (2000<l.length)) (h2:decide (c=0)=decide (1000<l.length))
  (hr:∀ c'∈rdC (bet [((enc l:Nat):Rat),((l.length:Int):Rat),(fU l).2]) b1 c,c'.Ok Tryz.prog (SQ (bet [((enc l:Nat):Rat),((l.length:Int):Rat),(fU l).2])) EV) :
  Calls Tryz.prog 4 #[.string ⟨l.toArray⟩] W (aX W (.bool true)):=by
 have hs:(List.map (SV.den (ev [⟨false,0,none,0,0,⟨l.toArray⟩,0,default⟩])) [.e (.s (.ot 0))]).toArray=#[.string ⟨l.toArray⟩]:=rfl
 rw [← hs]
 refine MZ hr (Yb _ b1 c hc (X9 h1 h2) (Ya hl)) hE fun g hg=>?_
 obtain rfl:=List.mem_singleton.1 hg
 show (⟨l.toArray⟩:ByteArray)=⟨(txt ((enc l:Nat):Rat)).toArray⟩
 rw [bI]
theorem Ye {l:List UInt8} (hl:l.length≤9223372036854775807) {W:World} (hE:EV W):Calls Tryz.prog 4 #[.string ⟨l.toArray⟩] W (aX W (.bool true)):=by
 have t0:txt ((bet [((enc l:Nat):Rat),((l.length:Int):Rat),(fU l).2]) 0)=l:=bI l
 by_cases h2:2000<l.length
 ·refine F8 hl hE (b1:=true) (c:=0) (by decide) (decide_eq_true h2).symm ((decide_eq_true rfl).trans (decide_eq_true (show 1000<l.length by omega)).symm) ?_
  unfold rdC
  rw [if_pos rfl]
  simp only [List.cons_append,List.nil_append,List.forall_mem_cons]
  exact ⟨CS,Cm F7⟩
 have hP:∀ W,EV W→Calls Tryz.prog 28 #[.string ⟨(txt ((bet [((enc l:Nat):Rat),((l.length:Int):Rat),(fU l).2]) 0)).toArray⟩] W (dS W (fU l).2 (fU l).1):=fun W hE=>by
  rw [t0];exact Xx (by omega) hE
 have f2:=XM (l:=l)
 by_cases h1:1000<l.length
 ·refine F8 hl hE (b1:=false) (c:=0) (by decide) (decide_eq_false h2).symm ((decide_eq_true rfl).trans (decide_eq_true h1).symm) ?_
  have e:fU l=(5,0):=by unfold fU;rw [if_pos h1]
  rw [e] at hP f2
  unfold rdC
  rw [if_neg (by decide),if_pos rfl]
  simp only [List.cons_append,List.nil_append,List.forall_mem_cons]
  exact ⟨CS,IZ hP f2,Cm F7⟩
 ·have hR:∀ W,EV W→Calls Tryz.prog 29 #[.string ⟨(txt ((bet [((enc l:Nat):Rat),((l.length:Int):Rat),(fU l).2]) 0)).toArray⟩] W (rY W ((pqK l).res.2.ev (paB l (aA l) (aA l).length)) (pqK l).res.1):=fun W hE=>by
   rw [t0];exact YA (by omega) hE
  have go:∀ c:Nat,c<4→c≠0→(fU l).1=(rdN c).1→(fU l).2=(rdN c).2.1.ev (bet [((enc l:Nat):Rat),((l.length:Int):Rat),(fU l).2])→(pqK l).res.1=(rdN c).2.2→((pqK l).res.1=0→(pqK l).res.2.ev (paB l (aA l) (aA l).length)=(fU l).2)→Calls Tryz.prog 4 #[.string ⟨l.toArray⟩] W (aX W (.bool true)):=fun c hc h0 g1 g2 g3 g4=>by
   refine F8 hl hE (b1:=false) (c:=c) hc (decide_eq_false h2).symm ((decide_eq_false h0).trans (decide_eq_false h1).symm) ?_
   unfold rdC
   rw [if_neg (by decide),if_neg h0]
   simp only [List.cons_append,List.nil_append,List.forall_mem_cons]
   refine ⟨CS,IZ (fun W hE=>?_) ?_,Q7 (fun W hE=>?_) ?_,Cm F7⟩
   ·rw [← g1,← g2];exact hP W hE
   ·rw [← g2];exact f2
   ·rw [← g2,← g3]
    refine (hR W hE).mono fun e W' ⟨v,he,hv,hb⟩=>⟨v,he,?_,hb⟩
    split at hv
    ·rename_i h;rw [g4 h] at hv;rw [if_pos h];exact hv
    ·rename_i h;rw [if_neg h];exact hv
   ·rw [← g2];exact f2
  rcases Yc (l:=l) (by omega) with ⟨g1,g2,g3⟩ | ⟨g1,g2,g3⟩ | ⟨g1,g2,g3⟩
  ·exact go 1 (by decide) (by decide) g1 g3 g2 fun h=>absurd (g2.symm.trans h) (by decide)
  ·exact go 2 (by decide) (by decide) g1 g3 g2 fun h=>absurd (g2.symm.trans h) (by decide)
  ·exact go 3 (by decide) (by decide) g1 rfl g2 fun _=>g3.symm
end Rx
end Go.Proofs.YtancpaiaoamjlaaGreatDoor
