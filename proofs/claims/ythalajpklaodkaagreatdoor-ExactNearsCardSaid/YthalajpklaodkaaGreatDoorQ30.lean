/- What the proof rests on, part 30. -/
import Derived.Test.YthalajpklaodkaaGreatDoorQ29
import Derived.Test.YthalajpklaodkaaGreatDoorQ27
import Derived.Test.YthalajpklaodkaaGreatDoorQ26
import Derived.Test.YthalajpklaodkaaGreatDoorQ22
namespace Go.Proofs.YthalajpklaodkaaGreatDoor
set_option maxRecDepth 100000
set_option maxHeartbeats 80000000
namespace Rx
open Go.RowKit
section
variable (β:Nat→Rat) (h:Hint)
def DI:Con (SR β) where
 fn:=97
 app:=fun db b args=>match args with
  | [.e (.a [.ob s,.os s',.bl false,.os t])]=>if s=s' && s+1=t then (match findD db s with
    | some (e,k)=>some (.e (.a [.bl false,.os b]),[.l b (.den e) k])
    | none=>none) else none
  | _=>none
def yH (f:FuncId) (o:RE→RE→RE) (sz:Nat→Nat→Nat):Con (SR β) where
 fn:=f
 app:=fun db b args=>match args with
  | [.e (.a x),.e (.a y)]=>match asY db x,asY db y with
   | some (e,k),some (e',k')=>if decide (k≤K1) && decide (k'≤K1) then some (.e (.a (zC b)),[.z b (o e e') (sz k k')]) else none
   | _,_=>none
  | _=>none
def Ef:Con (SR β) where
 fn:=108
 app:=fun db b args=>match args with
  | [.e (.a x)]=>match asY db x with
   | some (e,k)=>some (.e (.a (zC b)),[.z b (.neg e) k])
   | none=>none
  | _=>none
def DW:Con (SR β) where
 fn:=93
 app:=fun _ b args=>match args with
  | [.e (.s (.it .i64 n))]=>if decide (0≤n) && decide (n≤9223372036854775807) then some (.e (.a [.bl false,.os b]),[.l b (.c n) 1]) else none
  | _=>none
def DY:Con (SR β) where
 fn:=92
 app:=fun db b args=>match args with
  | [.e (.a x),.e (.a y)]=>match asY db x,asY db y with
   | some (e,k),some (e',k')=>if decide (k≤K1) && decide (k'≤K1) && (jB e' || nzB h e') then some (.e (.a (aT b)),[.r b (.div e e') (max k k')]) else none
   | _,_=>none
  | _=>none
def Ee:Con (SR β) where
 fn:=95
 app:=fun db _ args=>match args with
  | [.e (.a x),.e (.a y)]=>match asY db x,asY db y with
   | some (e,k),some (e',k')=>if decide (k≤K1) && decide (k'≤K1) then (match cmB h e e' with
     | some c=>some (.e (.s (.it .i64 c)),[])
     | none=>none) else none
   | _,_=>none
  | _=>none
def DT:Con (SR β) where
 fn:=109
 app:=fun db b args=>match args with
  | [.e (.s (.bl false)),.e (.s (.os s))]=>match findD db s with
   | some (e,k)=>some (.e (.a [.bl false,.os b]),[.l b (.abs (.num e)) k])
   | none=>none
  | _=>none
def cr:List (Con (SR β)):=[DI β,yH β 96 .mul (fun a b=>a+b),yH β 106 .add (fun a b=>max a b+1),Ef β,DW β,DY β h,Ee β h,DT β]
end
section
variable {β:Nat→Rat} {h:Hint} {f:FuncId} {vals:Array Value} {W:World} {ρ:Env} {b:Nat}
theorem RI:(DI β).Ok Tryz.prog (SR β) EV:=by
 refine Con.ok0 rfl ?_
 intro db b args res new ha ρ W hf hE
 simp only [DI] at ha
 split at ha
 ·rename_i s s' t
  split at ha
  ·rename_i hh
   simp only [Bool.and_eq_true,decide_eq_true_eq] at hh
   obtain ⟨rfl,rfl⟩:=hh
   split at ha
   ·rename_i e k hx
    cases ha
    obtain ⟨h1,h2⟩:=hf _ (lS hx)
    exact CV (Z4.EC _ _ W h1) (by omega) rfl (by simpa using h2.2)
   ·cases ha
  ·cases ha
 ·cases ha
theorem JE {f:FuncId} {o:RE→RE→RE} {sz:Nat→Nat→Nat} {zo:Int→Int→Int} (hc:∀ a b v v' W k k',k≤K1→k'≤K1→Z4.IsZ W v a→Z4.IsZ W v' b→a.natAbs<B64 ^ k→b.natAbs<B64 ^ k'→EV W→Calls Tryz.prog f #[v,v'] W (Z4.dA W (zo a b)))
  (ho:∀ (a b:Int) (e e':RE),(a:Rat)=e.ev β→(b:Rat)=e'.ev β→((zo a b:Int):Rat)=(o e e').ev β) (hs:∀ (a b:Int) k k',a.natAbs<B64 ^ k→b.natAbs<B64 ^ k'→(zo a b).natAbs<B64 ^ (sz k k')):(yH β f o sz).Ok Tryz.prog (SR β) EV:=by
 refine Con.ok0 rfl ?_
 intro db b args res new ha ρ W hf hE
 simp only [yH] at ha
 split at ha
 ·split at ha
  ·rename_i x y _ _ e k e' k' hx hy
   split at ha
   ·rename_i hk
    simp only [Bool.and_eq_true,decide_eq_true_eq] at hk
    cases ha
    obtain ⟨z,h1,h2,h3⟩:=jl hx hf
    obtain ⟨z',g1,g2,g3⟩:=jl hy hf
    exact CW (hc z z' _ _ W k k' hk.1 hk.2 h1 g1 h3 g3 hE) (ho z z' e e' h2 g2) (hs z z' k k' h3 g3)
   ·cases ha
  ·cases ha
 ·cases ha
theorem SE:(Ef β).Ok Tryz.prog (SR β) EV:=by
 refine Con.ok0 rfl ?_
 intro db b args res new ha ρ W hf hE
 simp only [Ef] at ha
 split at ha
 ·split at ha
  ·rename_i e k hx
   cases ha
   obtain ⟨z,h1,h2,h3⟩:=jl hx hf
   exact CW (e:=.neg e) (Z4.PE z _ W h1) (by rw [Rat.intCast_neg,h2];rfl) (by rw [Int.natAbs_neg];exact h3)
  ·cases ha
 ·cases ha
theorem RV:(DW β).Ok Tryz.prog (SR β) EV:=by
 refine Con.ok0 rfl ?_
 intro db b args res new ha ρ W hf hE
 simp only [DW] at ha
 split at ha
 ·rename_i n
  split at ha
  ·rename_i hk
   simp only [Bool.and_eq_true,decide_eq_true_eq] at hk
   cases ha
   refine CV (e:=.c n) ((Z4.kE n (by omega) hk.2 W).mono fun e W' ⟨s,ds,he,hl,hd,ht,hv,hb⟩=>?_) hk.1 rfl (by rw [Nat.pow_one];unfold B64;omega)
   obtain ⟨p,l,c,rfl⟩:=hl.mk
   exact ⟨_,he,⟨p,l,c,ds,rfl,hl.mono (Nat.zero_le _),hd,ht,hv⟩,hb⟩
  ·cases ha
 ·cases ha
theorem vS {z d:Int} {k k':Nat} (hd:d≠0) (h1:z.natAbs<B64 ^ k) (h2:d.natAbs<B64 ^ k'):Fits (max k k') ((z:Rat) / (d:Rat)):=by
 have a1:=Nat.pow_le_pow_right (show 0<B64 by decide) (Nat.le_max_left k k')
 have a2:=Nat.pow_le_pow_right (show 0<B64 by decide) (Nat.le_max_right k k')
 have key:∀ (z:Int) (m:Nat),m≠0→z.natAbs<B64 ^ k→m<B64 ^ k'→Fits (max k k') (mkRat z m):=fun z m hm a b=>by
  obtain ⟨e1,-,e3⟩:=Z4.uK z m _ hm rfl
  exact ⟨by rw [e1];have:=Nat.div_le_self z.natAbs (Nat.gcd z.natAbs m);omega,by rw [e3];have:=Nat.div_le_self m (Nat.gcd z.natAbs m);omega⟩
 rcases Int.lt_or_le d 0 with h0 | h0
 ·obtain ⟨m,rfl⟩:∃ m:Nat,d = -(m:Int):=⟨d.natAbs,by omega⟩
  rw [show (z:Rat) / ((-(m:Int):Int):Rat)=mkRat (-z) m by rw [← Rat.divInt_eq_div,← Rat.divInt_ofNat,Rat.divInt_eq_divInt_iff (by omega) (by omega)];grind]
  exact key _ _ (by omega) (by omega) (by omega)
 ·obtain ⟨m,rfl⟩:∃ m:Nat,d=(m:Int):=⟨d.natAbs,by omega⟩
  rw [show (z:Rat) / (((m:Int):Int):Rat)=mkRat z m by rw [← Rat.divInt_eq_div,← Rat.divInt_ofNat]]
  exact key _ _ (by omega) h1 (by omega)
theorem RY (ok:h.Ok β):(DY β h).Ok Tryz.prog (SR β) EV:=by
 refine Con.ok0 rfl ?_
 intro db b args res new ha ρ W hf hE
 simp only [DY] at ha
 split at ha
 ·split at ha
  ·rename_i x y _ _ e k e' k' hx hy
   split at ha
   ·rename_i hk
    simp only [Bool.and_eq_true,Bool.or_eq_true,decide_eq_true_eq] at hk
    cases ha
    obtain ⟨z,h1,h2,h3⟩:=jl hx hf
    obtain ⟨z',g1,g2,g3⟩:=jl hy hf
    have hne:e'.ev β≠0:=by
     rcases hk.2 with h | h
     ·exact AQ h
     ·exact jA ok h
    have hz':z'≠0:=fun h0=>hne (by rw [← g2,h0];rfl)
    have hc:=Gx hz' h1 g1 (Nat.lt_of_lt_of_le h3 (Nat.pow_le_pow_right (by decide) hk.1.1)) (Nat.lt_of_lt_of_le g3 (Nat.pow_le_pow_right (by decide) hk.1.2)) hE
    have hfit:=vS hz' h3 g3
    rw [h2,g2] at hc hfit
    exact QB (e:=.div e e') hc hfit
   ·cases ha
  ·cases ha
 ·cases ha
theorem lI {a b:Int}:aF (a:Rat) (b:Rat)=(if a<b then -1 else if a=b then 0 else 1):=by
 unfold aF
 have e:((a:Int):Rat)=((b:Int):Rat)↔a=b:=by exact_mod_cast Iff.rfl
 have l:((a:Int):Rat)<((b:Int):Rat)↔a<b:=by exact_mod_cast Iff.rfl
 simp only [e,l]
theorem SC (ok:h.Ok β):(Ee β h).Ok Tryz.prog (SR β) EV:=by
 refine Con.ok0 rfl ?_
 intro db b args res new ha ρ W hf hE
 simp only [Ee] at ha
 split at ha
 ·split at ha
  ·rename_i x y _ _ e k e' k' hx hy
   split at ha
   ·rename_i hk
    simp only [Bool.and_eq_true,decide_eq_true_eq] at hk
    split at ha
    ·rename_i c hc
     cases ha
     obtain ⟨z,h1,h2,h3⟩:=jl hx hf
     obtain ⟨z',g1,g2,g3⟩:=jl hy hf
     have hcc:=kQ ok hc
     rw [← h2,← g2,lI] at hcc
     have a1:=Nat.pow_le_pow_right (show 0<B64 by decide) hk.1
     have a2:=Nat.pow_le_pow_right (show 0<B64 by decide) hk.2
     have:=Py h1 g1 (by omega) (by omega) hE
     rw [hcc] at this
     exact Qz this
    ·cases ha
   ·cases ha
  ·cases ha
 ·cases ha
theorem RQ:(DT β).Ok Tryz.prog (SR β) EV:=by
 refine Con.ok0 rfl ?_
 intro db b args res new ha ρ W hf hE
 simp only [DT] at ha
 split at ha
 ·rename_i s
  split at ha
  ·rename_i e k hx
   cases ha
   obtain ⟨h1,h2⟩:=hf _ (lS hx)
   obtain ⟨xs,-,g1,g2,g3,g4⟩:=(Z4.IsR.num h1).parts
   have hc:=Z4.G7 false (.slice (ρ s).p (ρ s).l (ρ s).c) xs W g1 g2 g3
   rw [if_neg (by decide),g4] at hc
   refine CV (e:=.abs (.num e)) hc (by omega) ?_ (by simpa using h2.1)
   show _=if ((((e.ev β).num:Int):Rat)).num<0 then -((((e.ev β).num:Int):Rat)) else (((e.ev β).num:Int):Rat)
   rw [Rat.num_intCast]
   split
   ·rw [show (((e.ev β).num.natAbs:Nat):Int) = -(e.ev β).num by omega,Rat.intCast_neg]
   ·rw [show (((e.ev β).num.natAbs:Nat):Int)=(e.ev β).num by omega]
  ·cases ha
 ·cases ha
theorem jr (ok:h.Ok β):∀ c∈cr β h,c.Ok Tryz.prog (SR β) EV:=by
 have pk:∀ {k:Nat},k≤K1→B64 ^ k≤B64 ^ K1:=fun h=>Nat.pow_le_pow_right (show 0<B64 by decide) h
 unfold cr
 simp only [List.forall_mem_cons,List.not_mem_nil,false_imp_iff,implies_true,and_true]
 refine ⟨RI,JE (zo:=(· * ·)) (fun a b v v' W k k' hk hk' h1 h2 h3 h4 hE=>?_) (fun a b e e' h1 h2=>by rw [Rat.intCast_mul,h1,h2];rfl) (fun a b k k' h1 h2=>by rw [Int.natAbs_mul,Nat.pow_add];exact Nat.mul_lt_mul'' h1 h2),
  JE (zo:=(· + ·)) (fun a b v v' W k k' hk hk' h1 h2 h3 h4 hE=>Px h1 h2 (Nat.lt_of_lt_of_le h3 (pk hk)) (Nat.lt_of_lt_of_le h4 (pk hk')) hE) (fun a b e e' h1 h2=>by rw [Rat.intCast_add,h1,h2];rfl) (fun a b k k' h1 h2=>?_),SE,RV,RY ok,SC ok,RQ⟩
 ·have a1:=Nat.pow_le_pow_right (show 0<B64 by decide) (Nat.le_max_left k k')
  have a2:=Nat.pow_le_pow_right (show 0<B64 by decide) (Nat.le_max_right k k')
  have hB:=xW (max k k')
  exact Z4.abH a b v v' W h1 h2 (5*max k k') (by simp only [K1] at hk hk';omega) (by omega) (by omega)
 ·have a1:=Nat.pow_le_pow_right (show 0<B64 by decide) (Nat.le_max_left k k')
  have a2:=Nat.pow_le_pow_right (show 0<B64 by decide) (Nat.le_max_right k k')
  rw [Nat.pow_succ]
  have:B64 ^ max k k' * 2≤B64 ^ max k k' * B64:=Nat.mul_le_mul_left _ (by decide)
  omega
end
end Rx
namespace Rx
open Go.RowKit
def xQ (db:List Fd):List Cell→Option RE
 | [.ob a,.os b,.bl false,.os c]=>if a=b && a+1=c then (match findD db a with
   | some (e,_)=>some e
   | none=>none) else if a=b then (match oL db a,iC db c with
   | some (.neg (.num x),_),some (.den y,_)=>if x.beq y then some (.neg x) else none
   | some (e,_),some (.c 1,_)=>some e
   | _,_=>none) else none
 | [.bl false,.os b,.bl false,.os c]=>match iC db b,iC db c with
   | some (.abs (.num x),_),some (.den y,_)=>if x.beq y then some (.abs x) else none
   | some (.c n,_),some (.c 1,_)=>some (.c n)
   | _,_=>none
 | _=>none
def isR (e:RE):Option (SV×List Fd)→Bool
 | some (.e (.a cs),fs)=>match xQ fs cs with
  | some e'=>e'.beq e
  | none=>false
 | _=>false
theorem WU {e:RE} {o:Option (SV×List Fd)} (h:isR e o=true):∃ cs fs,o=some (.e (.a cs),fs)∧xQ fs cs=some e:=by
 unfold isR at h
 split at h
 ·split at h
  ·rename_i cs fs _ e' ha;exact ⟨cs,fs,rfl,by rw [ha,RE.beq_eq h]⟩
  ·cases h
 ·cases h
section
variable {β:Nat→Rat} {ρ:Env} {W:World} {db:List Fd}
theorem mg {v:Value} {r:Rat} {k:Nat} {z:Int} (h:IsY W v r k) (e:r=(z:Rat)):Z4.IsZ W v z:=by
 obtain ⟨y,h1,h2,-⟩:=h
 rw [e] at h2
 have:y=z:=by exact_mod_cast h2
 exact this ▸ h1
theorem IK (r:Rat):(if r.num<0 then -r else r).num=if r.num<0 then -r.num else r.num:=by split <;> simp
theorem Qj (r:Rat):(if r.num<0 then -r else r).den=r.den:=by split <;> simp
theorem Qk (x:RE):(RE.abs (.num x)).ev β=(((RE.abs x).ev β).num:Rat):=by
 show (if (((x.ev β).num:Int):Rat).num<0 then -(((x.ev β).num:Int):Rat) else (((x.ev β).num:Int):Rat))=((if (x.ev β).num<0 then -x.ev β else x.ev β).num:Rat)
 by_cases h:(x.ev β).num<0
 ·rw [if_pos h,if_pos (by rw [Rat.num_intCast];exact h),Rat.neg_num,Rat.intCast_neg]
 ·rw [if_neg h,if_neg (by rw [Rat.num_intCast];exact h)]
theorem QH {cs:List Cell} {e:RE} (h:xQ db cs=some e) (hf:∀ f∈db,(SR β).on ρ f W):Z4.IsR W (.agg (cs.map (Cell.den ρ)).toArray) (e.ev β):=by
 unfold xQ at h
 split at h
 ·rename_i a b c
  split at h
  ·rename_i hh
   simp only [Bool.and_eq_true,decide_eq_true_eq] at hh
   obtain ⟨rfl,rfl⟩:=hh
   split at h
   ·rename_i e' k hx
    cases h
    exact (hf _ (lS hx)).1
   ·cases h
  ·split at h
   ·rename_i hab
    subst hab
    split at h
    ·rename_i x k y k' hx hy
     split at h
     ·rename_i hxy
      cases h
      rw [← RE.beq_eq hxy] at hy
      have h1:=mg (z:=(-x.ev β).num) (hf _ (lU hx)) (by rw [Rat.neg_num,Rat.intCast_neg];rfl)
      have h2:=mg (z:=((-x.ev β).den:Int)) (lZ (hf _ (gy hy))) (by rw [Rat.neg_den];rfl)
      exact .mk2 h1 h2
     ·cases h
    ·rename_i e' k k' _ hx hy
     cases h
     obtain ⟨z,hz,hz2,-⟩:=(show IsY W _ _ _ from hf _ (lU hx))
     have h2:=mg (z:=((e.ev β).den:Int)) (lZ (hf _ (gy hy))) (by rw [← hz2,Rat.den_intCast];rfl)
     exact .mk2 (by rw [← hz2,Rat.num_intCast];exact hz) h2
    ·cases h
   ·cases h
 ·rename_i b c
  split at h
  ·rename_i x k y k' hx hy
   split at h
   ·rename_i hxy
    cases h
    rw [← RE.beq_eq hxy] at hy
    have h1:=mg (z:=((RE.abs x).ev β).num) (lZ (hf _ (gy hx))) (Qk x)
    have h2:=mg (z:=(((RE.abs x).ev β).den:Int)) (lZ (hf _ (gy hy))) (by
     show _=((((if (x.ev β).num<0 then -x.ev β else x.ev β).den:Nat):Int):Rat)
     rw [Qj];rfl)
    exact .mk2 h1 h2
   ·cases h
  ·rename_i n k k' hx hy
   cases h
   have h1:=mg (z:=((RE.c n).ev β).num) (lZ (hf _ (gy hx))) (by simp [RE.ev])
   have h2:=mg (z:=(((RE.c n).ev β).den:Int)) (lZ (hf _ (gy hy))) (by simp [RE.ev])
   exact .mk2 h1 h2
  ·cases h
 ·cases h
end
section
variable {β:Nat→Rat} {h:Hint} {fuel:Nat} {f:FuncId} {args:List SV} {fs:List Fd} {n0:Nat} {ρ:Env} {w:World}
theorem pz {cons:List (Con (SR β))} {e:RE} {r:Rat} (hc:∀ c∈cons,c.Ok Tryz.prog (SR β) EV) (hr:isR e (aN Tryz.prog (SR β) (HR β) cons fuel f args fs n0)=true) (he:e.ev β=r) (hE:EV w) (hf:∀ g∈fs,Fd.on β ρ g w):Calls Tryz.prog f (args.map (SV.den ρ)).toArray w (Z4.dW w r):=by
 obtain ⟨cs,fs',heq,ha⟩:=WU hr
 refine (dJ mixed hc heq (bg hE) hf).mono fun x W' ⟨ρ',_,hx,hb,hfs⟩=>?_
 have:=QH ha hfs
 rw [he] at this
 exact ⟨_,hx,this,hb⟩
theorem Oc {cons:List (Con (SR β))} {y:Int} (hc:∀ c∈cons,c.Ok Tryz.prog (SR β) EV) (hr:isJ y (aN Tryz.prog (SR β) (HR β) cons fuel f args fs n0)=true) (hE:EV w) (hf:∀ g∈fs,Fd.on β ρ g w):Calls Tryz.prog f (args.map (SV.den ρ)).toArray w (aZ w (.int .i64 y)):=by
 obtain ⟨fs',heq⟩:=La hr
 exact (dJ mixed hc heq (bg hE) hf).mono fun x W' ⟨ρ',_,hx,hb,_⟩=>⟨hx,hb⟩
end
abbrev K2:Nat:=65536
abbrev rr (s:Nat):SV:=.e (.a (aT s))
section
variable {a b:Rat} {v1 v2:Value} {W:World}
theorem AB {f:FuncId} {R:Ending→World→Prop} (h1:Z4.IsR W v1 a) (f1:Fits K2 a)
  (go:∀ ρ:Env,(∀ g∈[Fd.r 0 (.v 0) K2],Fd.on (bet [a]) ρ g W)→Calls Tryz.prog f ([rr 0].map (SV.den ρ)).toArray W R):Calls Tryz.prog f #[v1] W R:=by
 obtain ⟨c,d,rfl⟩:=mP h1
 refine go (ev [c,d]) fun g hg=>?_
 simp only [List.mem_cons,List.not_mem_nil,or_false] at hg
 subst hg
 exact ⟨h1,f1⟩
theorem BD {f:FuncId} {R:Ending→World→Prop} (h1:Z4.IsR W v1 a) (h2:Z4.IsR W v2 b) (f1:Fits K2 a) (f2:Fits K2 b)
  (go:∀ ρ:Env,(∀ g∈[Fd.r 0 (.v 0) K2,.r 2 (.v 1) K2],Fd.on (bet [a,b]) ρ g W)→Calls Tryz.prog f ([rr 0,rr 2].map (SV.den ρ)).toArray W R):Calls Tryz.prog f #[v1,v2] W R:=by
 obtain ⟨c,d,rfl⟩:=mP h1
 obtain ⟨c',d',rfl⟩:=mP h2
 refine go (ev [c,d,c',d']) fun g hg=>?_
 simp only [List.mem_cons,List.not_mem_nil,or_false] at hg
 rcases hg with rfl | rfl
 ·exact ⟨h1,f1⟩
 ·exact ⟨h2,f2⟩
abbrev nn (x:RE):RE:=.num x
abbrev dd (x:RE):RE:=.den x
theorem nU (r:Rat):(((r.den:Nat):Int):Rat)≠0:=fun h=>by
 have h2:((r.den:Nat):Int)=0:=by exact_mod_cast h
 have:=r.den_nz
 omega
theorem qQ (r:Rat):(r.num:Rat)=r*(((r.den:Nat):Int):Rat):=by
 have h1:r=(r.num:Rat) / (((r.den:Nat):Int):Rat):=by
  have:=(Rat.num_divInt_den r).symm
  rwa [Rat.divInt_eq_div] at this
 have h2:(r.num:Rat) / (((r.den:Nat):Int):Rat)*(((r.den:Nat):Int):Rat)=(r.num:Rat):=Rat.div_mul_cancel (nU r)
 rw [← h1] at h2
 exact h2.symm
theorem Qn (a b:Rat):((a.num:Rat)*(((b.den:Nat):Int):Rat)+(b.num:Rat)*(((a.den:Nat):Int):Rat)) / ((((a.den:Nat):Int):Rat)*(((b.den:Nat):Int):Rat))=a+b:=by
 have ha:=nU a
 have hb:=nU b
 have hab:(((a.den:Nat):Int):Rat)*(((b.den:Nat):Int):Rat)≠0:=fun h=>(Rat.mul_eq_zero.1 h).elim ha hb
 rw [qQ a,qQ b]
 generalize (((a.den:Nat):Int):Rat)=x at *
 generalize (((b.den:Nat):Int):Rat)=y at *
 rw [show a*x*y+b*y*x=(a+b)*(x*y) by grind,Rat.mul_div_cancel hab]
theorem X4 (a b:Rat):((a.num:Rat)*(b.num:Rat)) / ((((a.den:Nat):Int):Rat)*(((b.den:Nat):Int):Rat))=a*b:=by
 have ha:=nU a
 have hb:=nU b
 have hab:(((a.den:Nat):Int):Rat)*(((b.den:Nat):Int):Rat)≠0:=fun h=>(Rat.mul_eq_zero.1 h).elim ha hb
 rw [qQ a,qQ b]
 generalize (((a.den:Nat):Int):Rat)=x at *
 generalize (((b.den:Nat):Int):Rat)=y at *
 rw [show a*x*(b*y)=(a*b)*(x*y) by grind,Rat.mul_div_cancel hab]
theorem TN (a b:Rat) (hn:b≠0):((a.num:Rat)*(((b.den:Nat):Int):Rat)) / ((((a.den:Nat):Int):Rat)*(b.num:Rat))=a / b:=by
 have ha:=nU a
 have hb:=nU b
 rw [qQ a,qQ b]
 generalize (((a.den:Nat):Int):Rat)=x at *
 generalize (((b.den:Nat):Int):Rat)=y at *
 have hxy:b*(x*y)≠0:=fun h=>(Rat.mul_eq_zero.1 h).elim hn (fun h=>(Rat.mul_eq_zero.1 h).elim ha hb)
 have h1:a / b*b=a:=Rat.div_mul_cancel hn
 rw [show a*x*y=(a / b)*(b*(x*y)) by rw [← Rat.mul_assoc,h1];grind,show x*(b*y)=b*(x*y) by grind,Rat.mul_div_cancel hxy]
theorem Zm (h1:Z4.IsR W v1 a) (h2:Z4.IsR W v2 b) (f1:Fits K2 a) (f2:Fits K2 b) (hE:EV W):Calls Tryz.prog 21 #[v1,v2] W (Z4.dW W (a+b)):=
 BD h1 h2 f1 f2 fun ρ hg=>pz (β:=bet [a,b]) (e:=.div (.add (.mul (nn (.v 0)) (dd (.v 1))) (.mul (nn (.v 1)) (dd (.v 0)))) (.mul (dd (.v 0)) (dd (.v 1)))) (fuel:=1) (n0:=4) (jr (aV _)) (by kernel_rfl) (Qn a b) hE hg
theorem ZJ (h1:Z4.IsR W v1 a) (h2:Z4.IsR W v2 b) (f1:Fits K2 a) (f2:Fits K2 b) (hE:EV W):Calls Tryz.prog 25 #[v1,v2] W (Z4.dW W (a*b)):=
 BD h1 h2 f1 f2 fun ρ hg=>pz (β:=bet [a,b]) (e:=.div (.mul (nn (.v 0)) (nn (.v 1))) (.mul (dd (.v 0)) (dd (.v 1)))) (fuel:=1) (n0:=4) (jr (aV _)) (by kernel_rfl) (X4 a b) hE hg
theorem Zr (h1:Z4.IsR W v1 a) (h2:Z4.IsR W v2 b) (f1:Fits K2 a) (f2:Fits K2 b) (hn:b≠0) (hE:EV W):Calls Tryz.prog 17 #[v1,v2] W (Z4.dW W (a / b)):=
 have hd:(a.den:Int)≠0:=by have:=a.den_nz;omega
 have hb:b.num≠0:=fun e=>hn (Rat.num_eq_zero.1 e)
 have ok:Hint.Ok (bet [a,b]) { nz:=[.mul (dd (.v 0)) (nn (.v 1))] }:=⟨fun p h=>(by cases h),fun p h=>(by cases h),fun p hp=>(by
  simp at hp;subst hp
  intro h
  rcases Rat.mul_eq_zero.1 (show (((a.den:Nat):Int):Rat)*(b.num:Rat)=0 from h) with h | h
  ·exact nU a h
  ·exact hb (by exact_mod_cast h)),fun p h=>(by cases h),fun p h=>(by cases h)⟩
 BD h1 h2 f1 f2 fun ρ hg=>pz (β:=bet [a,b]) (e:=.div (.mul (nn (.v 0)) (dd (.v 1))) (.mul (dd (.v 0)) (nn (.v 1)))) (fuel:=1) (n0:=4) (jr ok) (by kernel_rfl) (TN a b hn) hE hg
theorem ZL (h1:Z4.IsR W v1 a) (f1:Fits K2 a) (hE:EV W):Calls Tryz.prog 27 #[v1] W (Z4.dW W (-a)):=
 AB h1 f1 fun ρ hg=>pz (β:=bet [a]) (e:=.neg (.v 0)) (fuel:=1) (n0:=4) (jr (aV _)) (by kernel_rfl) rfl hE hg
theorem Zl (h1:Z4.IsR W v1 a) (f1:Fits K2 a) (hE:EV W):Calls Tryz.prog 29 #[v1] W (Z4.dW W (if a.num<0 then -a else a)):=
 AB h1 f1 fun ρ hg=>pz (β:=bet [a]) (e:=.abs (.v 0)) (fuel:=1) (n0:=4) (jr (aV _)) (by kernel_rfl) rfl hE hg
theorem ZG (hE:EV W):Calls Tryz.prog 19 #[.int .i64 1] W (Z4.dW W (1:Rat)):=
 pz (β:=bet []) (ρ:=ev []) (args:=[.e (.s (.it .i64 1))]) (fs:=[]) (e:=.c 1) (fuel:=1) (n0:=0) (jr (aV _)) (by kernel_rfl) rfl hE (fun g hg=>by cases hg)
theorem ZH (hE:EV W):Calls Tryz.prog 19 #[.int .i64 2] W (Z4.dW W (2:Rat)):=
 pz (β:=bet []) (ρ:=ev []) (args:=[.e (.s (.it .i64 2))]) (fs:=[]) (e:=.c 2) (fuel:=1) (n0:=0) (jr (aV _)) (by kernel_rfl) rfl hE (fun g hg=>by cases hg)
theorem nP (a b:Rat):aF a b = -1∨aF a b=0∨aF a b=1:=by
 unfold aF
 split
 ·exact .inl rfl
 ·split
  ·exact .inr (.inl rfl)
  ·exact .inr (.inr rfl)
theorem Bh (a:Rat):sgQ a=if a.num<0 then -1 else if a.num=0 then 0 else 1:=by
 unfold sgQ sgn
 by_cases h:a.num<0
 ·rw [if_pos (decide_eq_true h),if_pos h]
 ·rw [if_neg (by simpa using h),if_neg h]
  by_cases h0:a.num=0
  ·rw [if_pos (by omega),if_pos h0]
  ·rw [if_neg (by omega),if_neg h0]
theorem sg3 (a:Rat):sgQ a = -1∨sgQ a=0∨sgQ a=1:=by
 rw [Bh]
 split
 ·exact .inl rfl
 ·split
  ·exact .inr (.inl rfl)
  ·exact .inr (.inr rfl)
theorem Ru (a b:Rat):aF ((a.num:Rat)*(((b.den:Nat):Int):Rat)) ((b.num:Rat)*(((a.den:Nat):Int):Rat))=aF a b:=by
 rw [← Rat.intCast_mul,← Rat.intCast_mul,lI,Jk]
 rfl
theorem Zq (h1:Z4.IsR W v1 a) (h2:Z4.IsR W v2 b) (f1:Fits K2 a) (f2:Fits K2 b) (hE:EV W):Calls Tryz.prog 31 #[v1,v2] W (aZ W (.int .i64 (aF a b))):=by
 have ok:∀ y,aF a b=y→Hint.Ok (bet [a,b]) { cm:=[(.mul (nn (.v 0)) (dd (.v 1)),.mul (nn (.v 1)) (dd (.v 0)),y)] }:=fun y hy=>jv (fun p hp=>by simp at hp;subst hp;exact (Ru a b).trans hy) (fun p h=>by cases h) (fun p h=>by cases h)
 obtain hy | hy | hy:=nP a b
 all_goals (rw [hy];exact BD h1 h2 f1 f2 fun ρ hg=>Oc (β:=bet [a,b]) (fuel:=1) (n0:=4) (jr (ok _ hy)) (by kernel_rfl) hE hg)
theorem aas (a:Rat):aF (a.num:Rat) 0=sgQ a:=by
 rw [show (0:Rat)=((0:Int):Rat) from rfl,lI,Bh]
theorem Z8 (h1:Z4.IsR W v1 a) (f1:Fits K2 a) (hE:EV W):Calls Tryz.prog 16 #[v1] W (aZ W (.int .i64 (sgQ a))):=by
 have ok:∀ y,sgQ a=y→Hint.Ok (bet [a]) { cm:=[(nn (.v 0),.c 0,y)] }:=fun y hy=>jv (fun p hp=>by simp at hp;subst hp;exact (aas a).trans hy) (fun p h=>by cases h) (fun p h=>by cases h)
 obtain hy | hy | hy:=sg3 a
 all_goals (rw [hy];exact AB h1 f1 fun ρ hg=>Oc (β:=bet [a]) (fuel:=1) (n0:=4) (jr (ok _ hy)) (by kernel_rfl) hE hg)
end
theorem Kz {k:Nat} {r:Rat} (h:Fits k r):Fits k (r.num:Rat)∧Fits k ((((r.den:Nat):Int):Rat)):=by
 have h1:1<B64 ^ k:=Nat.lt_of_le_of_lt r.den_pos h.2
 exact ⟨⟨by rw [Rat.num_intCast];exact h.1,by rw [Rat.den_intCast];exact h1⟩,by rw [Rat.num_intCast];simpa using h.2,by rw [Rat.den_intCast];exact h1⟩
end Rx
namespace Rx
open Go.RowKit
def iK (db:List Fc):List Cell→Option (RE×Nat)
 | [.ob a,.os b,.bl false,.os c]=>if a=b && a+1=c then qB db a else none
 | _=>none
theorem jd {β:Nat→Rat} {ρ:Env} {W:World} {db:List Fc} {cs:List Cell} {e:RE} {k:Nat} (h:iK db cs=some (e,k)) (hf:∀ f∈db,(SQ β).on ρ f W):Z4.IsR W (.agg (cs.map (Cell.den ρ)).toArray) (e.ev β)∧Fits k (e.ev β):=by
 unfold iK at h
 split at h
 ·rename_i a b c
  split at h
  ·rename_i hh
   simp only [Bool.and_eq_true,decide_eq_true_eq] at hh
   obtain ⟨rfl,rfl⟩:=hh
   exact hf _ (lT h)
  ·cases h
 ·cases h
def nu (n:Int):Nv:=⟨false,n,none,0,0,.empty,0,default⟩
theorem IsN.fits {n d b:Int} {r:Rat} (h:IsN n d b r):Fits 4 r:=by
 obtain ⟨pw,-,-,h1,h2,h3,h4,he⟩:=h
 rw [← he]
 exact MN _ _ _ h1 h2 h3 h4
end Rx
namespace Z4
open Go.RowKit Go.Sort Go.Lib
theorem Ia (z:Int) (v:Value) (w:World) (h:IsZ w v z) (k:Nat) (hk:k≤1073741824) (ka:z.natAbs<B64 ^ k):Calls Tryz.prog 137 #[v] w (gV w (iI z)):=by
 obtain ⟨p,l,c,xs,rfl,hl,dx,tx,hv⟩:=h
 have hlen:=hl.len
 rcases Nat.eq_zero_or_pos xs.length with h0 | h0
 ·have hz:=(uU dx tx).1 h0
  have e0:z=0:=by omega
  have el:l=0:=by omega
  subst e0;subst el
  have:=PN (decide ((0:Int)<0)) p c w
  rwa [show iI 0=[48] by unfold iI;rw [if_neg (by decide),decDigits];rfl]
 ·have hz:0<val xs:=by
   rcases Nat.eq_zero_or_pos (val xs) with h | h
   ·have:=(uU dx tx).2 h;omega
   ·exact h
  have hle:xs.length≤5*k:=jh tx (Nat.lt_of_lt_of_le (by rw [hv];exact ka) (by rw [Nat.pow_mul];exact Nat.pow_le_pow_left (by decide) k))
  rcases hl with ⟨he,rfl⟩ | ⟨b,o,k',he,-,hb,-,hi⟩
  ·simp at h0
  ·injection he with e1 e2 e3
   subst e1;subst e2;subst e3
   have:=abR (decide (z<0)) b o c xs w hb hi dx hz (by omega)
   rw [hv] at this
   unfold iI
   by_cases hz0:z<0
   ·rw [decide_eq_true hz0] at this ⊢
    rw [if_pos rfl] at this
    rw [if_pos hz0];exact this
   ·rw [decide_eq_false hz0] at this ⊢
    rw [if_neg (by decide)] at this
    rw [if_neg hz0];exact this
theorem JK (n:Nat):decDigits n=[49]↔n=1:=by
 constructor
 ·intro h
  by_cases h10:n<10
  ·rw [decDigits,dif_pos h10] at h
   have h1:UInt8.ofNat (48+n)=49:=by simpa using h
   have h2:=congrArg UInt8.toNat h1
   rw [UInt8.toNat_ofNat'] at h2
   have:(49:UInt8).toNat=49:=rfl
   omega
  ·rw [decDigits,dif_neg h10] at h
   have h1:=congrArg List.length h
   rw [List.length_append] at h1
   obtain ⟨x,r,h2,-⟩:=JJ (n:=n / 10) (by omega)
   rw [h2] at h1
   simp at h1
 ·rintro rfl;rw [decDigits];rfl
theorem aa0 (r:Rat):iO r=if decDigits r.den=[49] then iI r.num else iI r.num ++ (47 :: iI (r.den:Int)):=by
 unfold iO iI
 rw [if_neg (show ¬ ((r.den:Int)<0) by omega),List.nil_append,Int.natAbs_natCast]
 by_cases h:r.den=1
 ·rw [if_pos h,if_pos ((JK _).2 h),List.append_nil]
 ·rw [if_neg h,if_neg (fun e=>h ((JK _).1 e))]
theorem Z9 (r:Rat) (v:Value) (w:World) (h:IsR w v r) (k:Nat) (hk:k≤1073741824) (hf:Fits k r):Calls Tryz.prog 91 #[v] w (gV w (iO r)):=by
 obtain ⟨t1,p1,l1,k1,r1,s1,u1,rfl⟩:=h.open
 have HN:=hid (fun (W:World) (a:IsZ W (.agg #[.bool t1,.slice p1 l1 k1]) r.num)=>Ia _ _ W a k hk hf.1)
 have HM:=hid (fun (W:World) (v:Value) (a:IsZ W v (r.den:Int))=>Ia _ v W a k hk (by rw [Int.natAbs_natCast];exact hf.2))
 have HD:=hid (fun (W:World) (a:IsZ W (.agg #[.bool t1,.slice p1 l1 k1]) r.num) (b:IsZ W (.agg #[.bool false,.slice r1 s1 u1]) (r.den:Int))=>EC r _ W (.mk2 a b))
 have h1:=sQ _ k hf.1 hk
 have h2:=sQ _ k hf.2 hk
 have e2:iI (r.den:Int)=decDigits r.den:=by
  unfold iI
  rw [if_neg (show ¬ ((r.den:Int)<0) by omega),List.nil_append,Int.natAbs_natCast]
 have hD:(iI r.num).length≤21474836482:=by unfold iI;rw [List.length_append];split <;> simp <;> omega
 have hE:(iI (r.den:Int)).length≤21474836481:=by rw [e2];exact h2
 have hT:=aa0 r
 rw [← e2] at hT
 have hn:=h.num
 have hd:=h.d
 obtain ⟨D,hD1⟩:∃ D,iI r.num=D:=⟨_,rfl⟩
 obtain ⟨E,hE1⟩:∃ E,iI (r.den:Int)=E:=⟨_,rfl⟩
 obtain ⟨T,hT1⟩:∃ T,iO r=T:=⟨_,rfl⟩
 rw [hD1] at HN hD hT
 rw [hE1] at HM hE hT
 rw [hT1] at hT ⊢
 clear hD1 hE1 hT1 e2 h h1 h2 hf
 have HI:=hid (And.intro hn hd)
 clear hn hd
 have HT:=hid hT
 clear hT
 go_enter Tryz.func91,Tryz.ntmps91
 go_wp2_with fail
 have hS0:=hid ((St.start w).alloc' (w.heap.size) (by simp) 37 [.bool t1,.slice p1 l1 k1,.bool false,.slice r1 s1 u1])
 obtain ⟨W0,hW0⟩:=bI hS0
 rw [hW0] at hS0 ⊢
 clear hW0
 have hS1:=hid ((hS0.out.fact (.z (.agg #[.bool t1,.slice p1 l1 k1]) r.num) (HI.out.1.below hS0.out.bel)).fact (.z (.agg #[.bool false,.slice r1 s1 u1]) (r.den:Int)) (HI.out.2.below hS0.out.bel))
 clear hS0 HI
 obtain ⟨⟨cR0,cR1,cR2,cR3⟩,fR0,fR1,fR2,fR3⟩:=hS1.out.f4 0 w.heap.size 37 (.bool t1) (.slice p1 l1 k1) (.bool false) (.slice r1 s1 u1) rfl
 go_wp2_with fail
 clear cR0 cR1 cR2 cR3 fR0 fR1 fR2 fR3
 refine (HN.out _ (hS1.out.get (f:=.z (.agg #[.bool t1,.slice p1 l1 k1]) r.num) 1 rfl)).mono ?_
 rintro e w1 ⟨rfl,hB⟩
 have hS2:=hid (hS1.out.call hB)
 clear hS1 hB
 obtain ⟨⟨cR0,cR1,cR2,cR3⟩,fR0,fR1,fR2,fR3⟩:=hS2.out.f4 0 w.heap.size 37 (.bool t1) (.slice p1 l1 k1) (.bool false) (.slice r1 s1 u1) rfl
 go_wp2_with fail
 clear cR0 cR1 cR2 cR3 fR0 fR1 fR2 fR3
 refine (HD.out _ (hS2.out.get (f:=.z (.agg #[.bool t1,.slice p1 l1 k1]) r.num) 1 rfl) (hS2.out.get (f:=.z (.agg #[.bool false,.slice r1 s1 u1]) (r.den:Int)) 0 rfl)).mono ?_
 rintro e w2 ⟨v2,rfl,hz2,hB⟩
 have hS3:=hid (hS2.out.call hB)
 clear hS2 hB
 obtain ⟨t2,p2,l2,k2,rfl⟩:=hz2.open
 have hZ:=hid hz2
 clear hz2
 go_wp2_with fail
 refine (HM.out _ _ hZ.out).mono ?_
 rintro e w3 ⟨rfl,hB⟩
 have hS4:=hid (hS3.out.call hB)
 clear hS3 hB hZ
 by_cases he:E=[49]
 ·subst he
  have hT2:=HT.out
  rw [if_pos rfl] at hT2
  subst hT2
  go_wp2
  go_ret
  exact ⟨rfl,hS4.out.bel⟩
 ·have hT2:=HT.out
  rw [if_neg he] at hT2
  have hb:(E == [49])=false:=by simpa using he
  have HT2:=hid hT2
  clear hT2 he HT
  go_wp2
  go_ret
  refine ⟨?_,hS4.out.bel⟩
  rw [HT2.out]
  refine congrArg (fun s=>Ending.returned (Value.string s)) ?_
  apply ByteArray.ext
  simp [ByteArray.data_append]
end Z4
end Go.Proofs.YthalajpklaodkaaGreatDoor
