/- What the proof rests on, part 34. -/
import Derived.Test.YtcglmmbgoonjnaaGreatDoorP32
import Derived.Test.YtcglmmbgoonjnaaGreatDoorP33
import Derived.Test.YtcglmmbgoonjnaaGreatDoorP31
import Derived.Test.YtcglmmbgoonjnaaGreatDoorP28
import Derived.Test.YtcglmmbgoonjnaaGreatDoorP22
namespace Go.Proofs.YtcglmmbgoonjnaaGreatDoor
set_option maxRecDepth 100000
set_option maxHeartbeats 80000000
namespace Rx
open Go.RowKit
def tu (db:List Fd):List Cell→Option RE
 | [.ob a,.os b,.bl false,.os c]=>if a=b && a+1=c then (match findD db a with
   | some (e,_)=>some e
   | none=>none) else if a=b then (match nD db a,gZ db c with
   | some (.neg (.num x),_),some (.den y,_)=>if x.beq y then some (.neg x) else none
   | some (e,_),some (.c 1,_)=>some e
   | _,_=>none) else none
 | [.bl false,.os b,.bl false,.os c]=>match gZ db b,gZ db c with
   | some (.abs (.num x),_),some (.den y,_)=>if x.beq y then some (.abs x) else none
   | some (.c n,_),some (.c 1,_)=>some (.c n)
   | _,_=>none
 | _=>none
def isR (e:RE):Option (SV×List Fd)→Bool
 | some (.e (.a cs),fs)=>match tu fs cs with
  | some e'=>e'.beq e
  | none=>false
 | _=>false
theorem PD {e:RE} {o:Option (SV×List Fd)} (h:isR e o=true):∃ cs fs,o=some (.e (.a cs),fs)∧tu fs cs=some e:=by
 unfold isR at h
 split at h
 ·split at h
  ·rename_i cs fs _ e' ha;exact ⟨cs,fs,rfl,by rw [ha,RE.beq_eq h]⟩
  ·cases h
 ·cases h
section
variable {β:Nat→Rat} {ρ:Env} {W:World} {db:List Fd}
theorem nM {v:Value} {r:Rat} {k:Nat} {z:Int} (h:IsY W v r k) (e:r=(z:Rat)):Z4.IsZ W v z:=by
 obtain ⟨y,h1,h2,-⟩:=h
 rw [e] at h2
 have:y=z:=by exact_mod_cast h2
 exact this ▸ h1
theorem Jm (r:Rat):(if r.num<0 then -r else r).den=r.den:=by split <;> simp
theorem Jo (x:RE):(RE.abs (.num x)).ev β=(((RE.abs x).ev β).num:Rat):=by
 show (if (((x.ev β).num:Int):Rat).num<0 then -(((x.ev β).num:Int):Rat) else (((x.ev β).num:Int):Rat))=((if (x.ev β).num<0 then -x.ev β else x.ev β).num:Rat)
 by_cases h:(x.ev β).num<0
 ·rw [if_pos h,if_pos (by rw [Rat.num_intCast];exact h),Rat.neg_num,Rat.intCast_neg]
 ·rw [if_neg h,if_neg (by rw [Rat.num_intCast];exact h)]
theorem JL {cs:List Cell} {e:RE} (h:tu db cs=some e) (hf:∀ f∈db,(SR β).on ρ f W):Z4.IsR W (.agg (cs.map (Cell.den ρ)).toArray) (e.ev β):=by
 unfold tu at h
 split at h
 ·rename_i a b c
  split at h
  ·rename_i hh
   simp only [Bool.and_eq_true,decide_eq_true_eq] at hh
   obtain ⟨rfl,rfl⟩:=hh
   split at h
   ·rename_i e' k hx
    cases h
    exact (hf _ (jV hx)).1
   ·cases h
  ·split at h
   ·rename_i hab
    subst hab
    split at h
    ·rename_i x k y k' hx hy
     split at h
     ·rename_i hxy
      cases h
      rw [← RE.beq_eq hxy] at hy
      have h1:=nM (z:=(-x.ev β).num) (hf _ (kW hx)) (by rw [Rat.neg_num,Rat.intCast_neg];rfl)
      have h2:=nM (z:=((-x.ev β).den:Int)) (lu (hf _ (fP hy))) (by rw [Rat.neg_den];rfl)
      exact .mk2 h1 h2
     ·cases h
    ·rename_i e' k k' _ hx hy
     cases h
     obtain ⟨z,hz,hz2,-⟩:=(show IsY W _ _ _ from hf _ (kW hx))
     have h2:=nM (z:=((e.ev β).den:Int)) (lu (hf _ (fP hy))) (by rw [← hz2,Rat.den_intCast];rfl)
     exact .mk2 (by rw [← hz2,Rat.num_intCast];exact hz) h2
    ·cases h
   ·cases h
 ·rename_i b c
  split at h
  ·rename_i x k y k' hx hy
   split at h
   ·rename_i hxy
    cases h
    rw [← RE.beq_eq hxy] at hy
    have h1:=nM (z:=((RE.abs x).ev β).num) (lu (hf _ (fP hx))) (Jo x)
    have h2:=nM (z:=(((RE.abs x).ev β).den:Int)) (lu (hf _ (fP hy))) (by
     show _=((((if (x.ev β).num<0 then -x.ev β else x.ev β).den:Nat):Int):Rat)
     rw [Jm];rfl)
    exact .mk2 h1 h2
   ·cases h
  ·rename_i n k k' hx hy
   cases h
   have h1:=nM (z:=((RE.c n).ev β).num) (lu (hf _ (fP hx))) (by simp [RE.ev])
   have h2:=nM (z:=(((RE.c n).ev β).den:Int)) (lu (hf _ (fP hy))) (by simp [RE.ev])
   exact .mk2 h1 h2
  ·cases h
 ·cases h
end
section
variable {β:Nat→Rat} {h:Hint} {fuel:Nat} {f:FuncId} {args:List SV} {fs:List Fd} {n0:Nat} {ρ:Env} {w:World}
theorem lJ {cons:List (Con (SR β))} {e:RE} {r:Rat} (hc:∀ c∈cons,c.Ok Tryz.prog (SR β) EV) (hr:isR e (runF Tryz.prog (SR β) (HR β) cons fuel f args fs n0)=true) (he:e.ev β=r) (hE:EV w) (hf:∀ g∈fs,Fd.on β ρ g w):Calls Tryz.prog f (args.map (SV.den ρ)).toArray w (Z4.dW w r):=by
 obtain ⟨cs,fs',heq,ha⟩:=PD hr
 refine (runF_ok mixed hc heq (dM hE) hf).mono fun x W' ⟨ρ',_,hx,hb,hfs⟩=>?_
 have:=JL ha hfs
 rw [he] at this
 exact ⟨_,hx,this,hb⟩
theorem GX {cons:List (Con (SR β))} {y:Int} (hc:∀ c∈cons,c.Ok Tryz.prog (SR β) EV) (hr:isJ y (runF Tryz.prog (SR β) (HR β) cons fuel f args fs n0)=true) (hE:EV w) (hf:∀ g∈fs,Fd.on β ρ g w):Calls Tryz.prog f (args.map (SV.den ρ)).toArray w (bD w (.int .i64 y)):=by
 obtain ⟨fs',heq⟩:=ET hr
 exact (runF_ok mixed hc heq (dM hE) hf).mono fun x W' ⟨ρ',_,hx,hb,_⟩=>⟨hx,hb⟩
end
abbrev K2:Nat:=65536
abbrev rr (s:Nat):SV:=.e (.a (aW s))
section
variable {a b:Rat} {v1 v2:Value} {W:World}
theorem Ar {f:FuncId} {R:Ending→World→Prop} (h1:Z4.IsR W v1 a) (f1:Fits K2 a)
  (go:∀ ρ:Env,(∀ g∈[Fd.r 0 (.v 0) K2],Fd.on (bet [a]) ρ g W)→Calls Tryz.prog f ([rr 0].map (SV.den ρ)).toArray W R):Calls Tryz.prog f #[v1] W R:=by
 obtain ⟨c,d,rfl⟩:=lM h1
 refine go (ev [c,d]) fun g hg=>?_
 simp only [List.mem_cons,List.not_mem_nil,or_false] at hg
 subst hg
 exact ⟨h1,f1⟩
theorem wO {f:FuncId} {R:Ending→World→Prop} (h1:Z4.IsR W v1 a) (h2:Z4.IsR W v2 b) (f1:Fits K2 a) (f2:Fits K2 b)
  (go:∀ ρ:Env,(∀ g∈[Fd.r 0 (.v 0) K2,.r 2 (.v 1) K2],Fd.on (bet [a,b]) ρ g W)→Calls Tryz.prog f ([rr 0,rr 2].map (SV.den ρ)).toArray W R):Calls Tryz.prog f #[v1,v2] W R:=by
 obtain ⟨c,d,rfl⟩:=lM h1
 obtain ⟨c',d',rfl⟩:=lM h2
 refine go (ev [c,d,c',d']) fun g hg=>?_
 simp only [List.mem_cons,List.not_mem_nil,or_false] at hg
 rcases hg with rfl | rfl
 ·exact ⟨h1,f1⟩
 ·exact ⟨h2,f2⟩
abbrev nn (x:RE):RE:=.num x
abbrev dd (x:RE):RE:=.den x
theorem jS (r:Rat):(((r.den:Nat):Int):Rat)≠0:=fun h=>by
 have h2:((r.den:Nat):Int)=0:=by exact_mod_cast h
 have:=r.den_nz
 omega
theorem nS (r:Rat):(r.num:Rat)=r*(((r.den:Nat):Int):Rat):=by
 have h1:r=(r.num:Rat) / (((r.den:Nat):Int):Rat):=by
  have:=(Rat.num_divInt_den r).symm
  rwa [Rat.divInt_eq_div] at this
 have h2:(r.num:Rat) / (((r.den:Nat):Int):Rat)*(((r.den:Nat):Int):Rat)=(r.num:Rat):=Rat.div_mul_cancel (jS r)
 rw [← h1] at h2
 exact h2.symm
theorem Jq (a b:Rat):((a.num:Rat)*(((b.den:Nat):Int):Rat)+(b.num:Rat)*(((a.den:Nat):Int):Rat)) / ((((a.den:Nat):Int):Rat)*(((b.den:Nat):Int):Rat))=a+b:=by
 have ha:=jS a
 have hb:=jS b
 have hab:(((a.den:Nat):Int):Rat)*(((b.den:Nat):Int):Rat)≠0:=fun h=>(Rat.mul_eq_zero.1 h).elim ha hb
 rw [nS a,nS b]
 generalize (((a.den:Nat):Int):Rat)=x at *
 generalize (((b.den:Nat):Int):Rat)=y at *
 rw [show a*x*y+b*y*x=(a+b)*(x*y) by grind,Rat.mul_div_cancel hab]
theorem QN (a b:Rat):((a.num:Rat)*(b.num:Rat)) / ((((a.den:Nat):Int):Rat)*(((b.den:Nat):Int):Rat))=a*b:=by
 have ha:=jS a
 have hb:=jS b
 have hab:(((a.den:Nat):Int):Rat)*(((b.den:Nat):Int):Rat)≠0:=fun h=>(Rat.mul_eq_zero.1 h).elim ha hb
 rw [nS a,nS b]
 generalize (((a.den:Nat):Int):Rat)=x at *
 generalize (((b.den:Nat):Int):Rat)=y at *
 rw [show a*x*(b*y)=(a*b)*(x*y) by grind,Rat.mul_div_cancel hab]
theorem L9 (a b:Rat) (hn:b≠0):((a.num:Rat)*(((b.den:Nat):Int):Rat)) / ((((a.den:Nat):Int):Rat)*(b.num:Rat))=a / b:=by
 have ha:=jS a
 have hb:=jS b
 rw [nS a,nS b]
 generalize (((a.den:Nat):Int):Rat)=x at *
 generalize (((b.den:Nat):Int):Rat)=y at *
 have hxy:b*(x*y)≠0:=fun h=>(Rat.mul_eq_zero.1 h).elim hn (fun h=>(Rat.mul_eq_zero.1 h).elim ha hb)
 have h1:a / b*b=a:=Rat.div_mul_cancel hn
 rw [show a*x*y=(a / b)*(b*(x*y)) by rw [← Rat.mul_assoc,h1];grind,show x*(b*y)=b*(x*y) by grind,Rat.mul_div_cancel hxy]
theorem SK (h1:Z4.IsR W v1 a) (h2:Z4.IsR W v2 b) (f1:Fits K2 a) (f2:Fits K2 b) (hE:EV W):Calls Tryz.prog 29 #[v1,v2] W (Z4.dW W (a+b)):=
 wO h1 h2 f1 f2 fun ρ hg=>lJ (β:=bet [a,b]) (e:=.div (.add (.mul (nn (.v 0)) (dd (.v 1))) (.mul (nn (.v 1)) (dd (.v 0)))) (.mul (dd (.v 0)) (dd (.v 1)))) (fuel:=1) (n0:=4) (jw (fQ _)) (by kernel_rfl) (Jq a b) hE hg
theorem Tv (h1:Z4.IsR W v1 a) (h2:Z4.IsR W v2 b) (f1:Fits K2 a) (f2:Fits K2 b) (hE:EV W):Calls Tryz.prog 33 #[v1,v2] W (Z4.dW W (a*b)):=
 wO h1 h2 f1 f2 fun ρ hg=>lJ (β:=bet [a,b]) (e:=.div (.mul (nn (.v 0)) (nn (.v 1))) (.mul (dd (.v 0)) (dd (.v 1)))) (fuel:=1) (n0:=4) (jw (fQ _)) (by kernel_rfl) (QN a b) hE hg
theorem Tc (h1:Z4.IsR W v1 a) (h2:Z4.IsR W v2 b) (f1:Fits K2 a) (f2:Fits K2 b) (hn:b≠0) (hE:EV W):Calls Tryz.prog 25 #[v1,v2] W (Z4.dW W (a / b)):=
 have hd:(a.den:Int)≠0:=by have:=a.den_nz;omega
 have hb:b.num≠0:=fun e=>hn (Rat.num_eq_zero.1 e)
 have ok:Hint.Ok (bet [a,b]) { nz:=[.mul (dd (.v 0)) (nn (.v 1))] }:=⟨fun p h=>(by cases h),fun p h=>(by cases h),fun p hp=>(by
  simp at hp;subst hp
  intro h
  rcases Rat.mul_eq_zero.1 (show (((a.den:Nat):Int):Rat)*(b.num:Rat)=0 from h) with h | h
  ·exact jS a h
  ·exact hb (by exact_mod_cast h)),fun p h=>(by cases h),fun p h=>(by cases h)⟩
 wO h1 h2 f1 f2 fun ρ hg=>lJ (β:=bet [a,b]) (e:=.div (.mul (nn (.v 0)) (dd (.v 1))) (.mul (dd (.v 0)) (nn (.v 1)))) (fuel:=1) (n0:=4) (jw ok) (by kernel_rfl) (L9 a b hn) hE hg
theorem Tz (h1:Z4.IsR W v1 a) (f1:Fits K2 a) (hE:EV W):Calls Tryz.prog 35 #[v1] W (Z4.dW W (-a)):=
 Ar h1 f1 fun ρ hg=>lJ (β:=bet [a]) (e:=.neg (.v 0)) (fuel:=1) (n0:=4) (jw (fQ _)) (by kernel_rfl) rfl hE hg
theorem SI (h1:Z4.IsR W v1 a) (f1:Fits K2 a) (hE:EV W):Calls Tryz.prog 37 #[v1] W (Z4.dW W (if a.num<0 then -a else a)):=
 Ar h1 f1 fun ρ hg=>lJ (β:=bet [a]) (e:=.abs (.v 0)) (fuel:=1) (n0:=4) (jw (fQ _)) (by kernel_rfl) rfl hE hg
theorem Tj (hE:EV W):Calls Tryz.prog 27 #[.int .i64 1] W (Z4.dW W (1:Rat)):=
 lJ (β:=bet []) (ρ:=ev []) (args:=[.e (.s (.it .i64 1))]) (fs:=[]) (e:=.c 1) (fuel:=1) (n0:=0) (jw (fQ _)) (by kernel_rfl) rfl hE (fun g hg=>by cases hg)
theorem Tn (hE:EV W):Calls Tryz.prog 27 #[.int .i64 2] W (Z4.dW W (2:Rat)):=
 lJ (β:=bet []) (ρ:=ev []) (args:=[.e (.s (.it .i64 2))]) (fs:=[]) (e:=.c 2) (fuel:=1) (n0:=0) (jw (fQ _)) (by kernel_rfl) rfl hE (fun g hg=>by cases hg)
theorem tN (a b:Rat):aK a b = -1∨aK a b=0∨aK a b=1:=by
 unfold aK
 split
 ·exact .inl rfl
 ·split
  ·exact .inr (.inl rfl)
  ·exact .inr (.inr rfl)
theorem He (a:Rat):sgQ a=if a.num<0 then -1 else if a.num=0 then 0 else 1:=by
 unfold sgQ sgn
 by_cases h:a.num<0
 ·rw [if_pos (decide_eq_true h),if_pos h]
 ·rw [if_neg (by simpa using h),if_neg h]
  by_cases h0:a.num=0
  ·rw [if_pos (by omega),if_pos h0]
  ·rw [if_neg (by omega),if_neg h0]
theorem sg3 (a:Rat):sgQ a = -1∨sgQ a=0∨sgQ a=1:=by
 rw [He]
 split
 ·exact .inl rfl
 ·split
  ·exact .inr (.inl rfl)
  ·exact .inr (.inr rfl)
theorem Ky (a b:Rat):aK ((a.num:Rat)*(((b.den:Nat):Int):Rat)) ((b.num:Rat)*(((a.den:Nat):Int):Rat))=aK a b:=by
 rw [← Rat.intCast_mul,← Rat.intCast_mul,yg,Du]
 rfl
theorem S9 (h1:Z4.IsR W v1 a) (h2:Z4.IsR W v2 b) (f1:Fits K2 a) (f2:Fits K2 b) (hE:EV W):Calls Tryz.prog 39 #[v1,v2] W (bD W (.int .i64 (aK a b))):=by
 have ok:∀ y,aK a b=y→Hint.Ok (bet [a,b]) { cm:=[(.mul (nn (.v 0)) (dd (.v 1)),.mul (nn (.v 1)) (dd (.v 0)),y)] }:=fun y hy=>jE (fun p hp=>by simp at hp;subst hp;exact (Ky a b).trans hy) (fun p h=>by cases h) (fun p h=>by cases h)
 obtain hy | hy | hy:=tN a b
 all_goals (rw [hy];exact wO h1 h2 f1 f2 fun ρ hg=>GX (β:=bet [a,b]) (fuel:=1) (n0:=4) (jw (ok _ hy)) (by kernel_rfl) hE hg)
theorem Uc (a:Rat):aK (a.num:Rat) 0=sgQ a:=by
 rw [show (0:Rat)=((0:Int):Rat) from rfl,yg,He]
theorem TL (h1:Z4.IsR W v1 a) (f1:Fits K2 a) (hE:EV W):Calls Tryz.prog 24 #[v1] W (bD W (.int .i64 (sgQ a))):=by
 have ok:∀ y,sgQ a=y→Hint.Ok (bet [a]) { cm:=[(nn (.v 0),.c 0,y)] }:=fun y hy=>jE (fun p hp=>by simp at hp;subst hp;exact (Uc a).trans hy) (fun p h=>by cases h) (fun p h=>by cases h)
 obtain hy | hy | hy:=sg3 a
 all_goals (rw [hy];exact Ar h1 f1 fun ρ hg=>GX (β:=bet [a]) (fuel:=1) (n0:=4) (jw (ok _ hy)) (by kernel_rfl) hE hg)
end
end Rx
namespace Z4
open Go.RowKit Go.Sort Go.Lib
theorem BM (z:Int) (v:Value) (w:World) (h:IsZ w v z) (k:Nat) (hk:k≤1073741824) (ka:z.natAbs<B64 ^ k):Calls Tryz.prog 172 #[v] w (eX w (fM z)):=by
 obtain ⟨p,l,c,xs,rfl,hl,dx,tx,hv⟩:=h
 have hlen:=hl.len
 rcases Nat.eq_zero_or_pos xs.length with h0 | h0
 ·have hz:=(qA dx tx).1 h0
  have e0:z=0:=by omega
  have el:l=0:=by omega
  subst e0;subst el
  have:=IQ (decide ((0:Int)<0)) p c w
  rwa [show fM 0=[48] by unfold fM;rw [if_neg (by decide),decDigits];rfl]
 ·have hz:0<val xs:=by
   rcases Nat.eq_zero_or_pos (val xs) with h | h
   ·have:=(qA dx tx).2 h;omega
   ·exact h
  have hle:xs.length≤5*k:=bY tx (Nat.lt_of_lt_of_le (by rw [hv];exact ka) (by rw [Nat.pow_mul];exact Nat.pow_le_pow_left (by decide) k))
  rcases hl with ⟨he,rfl⟩ | ⟨b,o,k',he,-,hb,-,hi⟩
  ·simp at h0
  ·injection he with e1 e2 e3
   subst e1;subst e2;subst e3
   have:=Vq (decide (z<0)) b o c xs w hb hi dx hz (by omega)
   rw [hv] at this
   unfold fM
   by_cases hz0:z<0
   ·rw [decide_eq_true hz0] at this ⊢
    rw [if_pos rfl] at this
    rw [if_pos hz0];exact this
   ·rw [decide_eq_false hz0] at this ⊢
    rw [if_neg (by decide)] at this
    rw [if_neg hz0];exact this
theorem DX (n:Nat):decDigits n=[49]↔n=1:=by
 constructor
 ·intro h
  by_cases h10:n<10
  ·rw [decDigits,dif_pos h10] at h
   have h1:UInt8.ofNat (48+n)=49:=by simpa using h
   have h2:=congrArg UInt8.toNat h1
   rw [UInt8.toNat_ofNat'] at h2
   have:(49:UInt8).toNat=49:=rfl
   omega
  ·rw [decDigits,dif_neg h10] at h
   have h1:=congrArg List.length h
   rw [List.length_append] at h1
   obtain ⟨x,r,h2,-⟩:=DW (n:=n / 10) (by omega)
   rw [h2] at h1
   simp at h1
 ·rintro rfl;rw [decDigits];rfl
theorem TP (r:Rat):fV r=if decDigits r.den=[49] then fM r.num else fM r.num ++ (47 :: fM (r.den:Int)):=by
 unfold fV fM
 rw [if_neg (show ¬ ((r.den:Int)<0) by omega),List.nil_append,Int.natAbs_natCast]
 by_cases h:r.den=1
 ·rw [if_pos h,if_pos ((DX _).2 h),List.append_nil]
 ·rw [if_neg h,if_neg (fun e=>h ((DX _).1 e))]
theorem TN (r:Rat) (v:Value) (w:World) (h:IsR w v r) (k:Nat) (hk:k≤1073741824) (hf:Fits k r):Calls Tryz.prog 121 #[v] w (eX w (fV r)):=by
 obtain ⟨t1,p1,l1,k1,r1,s1,u1,rfl⟩:=h.open
 have HN:=hid (fun (W:World) (a:IsZ W (.agg #[.bool t1,.slice p1 l1 k1]) r.num)=>BM _ _ W a k hk hf.1)
 have HM:=hid (fun (W:World) (v:Value) (a:IsZ W v (r.den:Int))=>BM _ v W a k hk (by rw [Int.natAbs_natCast];exact hf.2))
 have HD:=hid (fun (W:World) (a:IsZ W (.agg #[.bool t1,.slice p1 l1 k1]) r.num) (b:IsZ W (.agg #[.bool false,.slice r1 s1 u1]) (r.den:Int))=>uz r _ W (.mk2 a b))
 have h1:=oP _ k hf.1 hk
 have h2:=oP _ k hf.2 hk
 have e2:fM (r.den:Int)=decDigits r.den:=by
  unfold fM
  rw [if_neg (show ¬ ((r.den:Int)<0) by omega),List.nil_append,Int.natAbs_natCast]
 have hD:(fM r.num).length≤21474836482:=by unfold fM;rw [List.length_append];split <;> simp <;> omega
 have hE:(fM (r.den:Int)).length≤21474836481:=by rw [e2];exact h2
 have hT:=TP r
 rw [← e2] at hT
 have hn:=h.num
 have hd:=h.d
 obtain ⟨D,hD1⟩:∃ D,fM r.num=D:=⟨_,rfl⟩
 obtain ⟨E,hE1⟩:∃ E,fM (r.den:Int)=E:=⟨_,rfl⟩
 obtain ⟨T,hT1⟩:∃ T,fV r=T:=⟨_,rfl⟩
 rw [hD1] at HN hD hT
 rw [hE1] at HM hE hT
 rw [hT1] at hT ⊢
 clear hD1 hE1 hT1 e2 h h1 h2 hf
 have HI:=hid (And.intro hn hd)
 clear hn hd
 have HT:=hid hT
 clear hT
 go_enter Tryz.func121,Tryz.ntmps121
 go_wp2_with fail
 have hS0:=hid ((St.start w).alloc' (w.heap.size) (by simp) 40 [.bool t1,.slice p1 l1 k1,.bool false,.slice r1 s1 u1])
 obtain ⟨W0,hW0⟩:=aQ hS0
 rw [hW0] at hS0 ⊢
 clear hW0
 have hS1:=hid ((hS0.out.fact (.z (.agg #[.bool t1,.slice p1 l1 k1]) r.num) (HI.out.1.below hS0.out.bel)).fact (.z (.agg #[.bool false,.slice r1 s1 u1]) (r.den:Int)) (HI.out.2.below hS0.out.bel))
 clear hS0 HI
 obtain ⟨⟨cR0,cR1,cR2,cR3⟩,fR0,fR1,fR2,fR3⟩:=hS1.out.f4 0 w.heap.size 40 (.bool t1) (.slice p1 l1 k1) (.bool false) (.slice r1 s1 u1) rfl
 go_wp2_with fail
 clear cR0 cR1 cR2 cR3 fR0 fR1 fR2 fR3
 refine (HN.out _ (hS1.out.get (f:=.z (.agg #[.bool t1,.slice p1 l1 k1]) r.num) 1 rfl)).mono ?_
 rintro e w1 ⟨rfl,hB⟩
 have hS2:=hid (hS1.out.call hB)
 clear hS1 hB
 obtain ⟨⟨cR0,cR1,cR2,cR3⟩,fR0,fR1,fR2,fR3⟩:=hS2.out.f4 0 w.heap.size 40 (.bool t1) (.slice p1 l1 k1) (.bool false) (.slice r1 s1 u1) rfl
 go_wp2_with fail
 clear cR0 cR1 cR2 cR3 fR0 fR1 fR2 fR3
 refine (HD.out _ (hS2.out.get (f:=.z (.agg #[.bool t1,.slice p1 l1 k1]) r.num) 1 rfl) (hS2.out.get (f:=.z (.agg #[.bool false,.slice r1 s1 u1]) (r.den:Int)) 0 rfl)).mono ?_
 rintro e w2 ⟨v2,rfl,hz2,hB⟩
 have hS3:=hid (hS2.out.call hB)
 clear hS2 hB
 obtain ⟨t2,p2,l2,k2,rfl⟩:=hz2.open
 have hZ:=hid hz2
 clear hz2
 go_wp2_with fail
 refine (HM.out _ _ hZ.out).mono ?_
 rintro e w3 ⟨rfl,hB⟩
 have hS4:=hid (hS3.out.call hB)
 clear hS3 hB hZ
 by_cases he:E=[49]
 ·subst he
  have hT2:=HT.out
  rw [if_pos rfl] at hT2
  subst hT2
  go_wp2
  go_ret
  exact ⟨rfl,hS4.out.bel⟩
 ·have hT2:=HT.out
  rw [if_neg he] at hT2
  have hb:(E == [49])=false:=by simpa using he
  have HT2:=hid hT2
  clear hT2 he HT
  go_wp2
  go_ret
  refine ⟨?_,hS4.out.bel⟩
  rw [HT2.out]
  refine congrArg (fun s=>Ending.returned (Value.string s)) ?_
  apply ByteArray.ext
  simp [ByteArray.data_append]
end Z4
namespace Rx
open Go.RowKit
inductive At
 | q
 | r
 | o
def At.n:At→Nat
 | .q=>5
 | _=>4
def Vk:List Cell:=[.bl false,.nils,.bl false,.nils]
def At.cells:At→Nat→List Cell
 | .q,s=>aI s
 | .r,s=>aW s
 | .o,_=>Vk
def At.fact:At→Nat→RE→Nat→List Fc
 | .q,s,e,k=>[.q s e k]
 | .r,s,e,k=>[.r s e k]
 | .o,_,_,_=>[]
def tH:List Cell→Option (RE×Nat)
 | [.bl false,.nils,.bl false,.nils]=>some (.c 0,0)
 | _=>none
def At.parse (db:List Fc):At→List Cell→Option (RE×Nat)
 | .q,cs=>dX db cs
 | .r,cs=>iJ db cs
 | .o,cs=>tH cs
section
variable {β β':Nat→Rat} {ρ:Env} {W:World} {db:List Fc}
theorem At.name {a:At} {cs:List Cell} {e:RE} {k:Nat} (h:a.parse db cs=some (e,k)) (hf:∀ f∈db,(SQ β).on ρ f W):∃ c d:Nv,∀ (ρ':Env) s,ρ' s=c→ρ' (s+1)=d →
  (a.cells s).map (Cell.den ρ')=cs.map (Cell.den ρ)∧∀ (β':Nat→Rat) e' k',e'.ev β' = e.ev β→k≤k'→∀ f∈a.fact s e' k',(SQ β').on ρ' f W:=by
 cases a with
 | q =>
  obtain ⟨h1,c,d,h2⟩:=fF h hf
  refine ⟨c,d,fun ρ' s hc hd=>?_⟩
  have h3:(aI s).map (Cell.den ρ')=cs.map (Cell.den ρ):=by
   have:=congrArg Array.toList (Value.agg.inj h2)
   simp only at this
   rw [this]
   simp [aI,Cell.den,hc,hd]
  refine ⟨h3,fun β' e' k' he hk f hm=>?_⟩
  simp only [At.fact,List.mem_singleton] at hm
  subst hm
  show IsQ W (.agg ((aI s).map (Cell.den ρ')).toArray) (e'.ev β')∧Fits k' (e'.ev β')
  rw [h3,he]
  exact ⟨h1.1,h1.2.mono hk⟩
 | r =>
  obtain ⟨h1,h1'⟩:=jr h hf
  obtain ⟨c,d,h2⟩:=lM h1
  refine ⟨c,d,fun ρ' s hc hd=>?_⟩
  have h3:(aW s).map (Cell.den ρ')=cs.map (Cell.den ρ):=by
   have:=congrArg Array.toList (Value.agg.inj h2)
   simp only at this
   rw [this]
   simp [aW,Cell.den,hc,hd]
  refine ⟨h3,fun β' e' k' he hk f hm=>?_⟩
  simp only [At.fact,List.mem_singleton] at hm
  subst hm
  show Z4.IsR W (.agg ((aW s).map (Cell.den ρ')).toArray) (e'.ev β')∧Fits k' (e'.ev β')
  rw [h3,he]
  exact ⟨h1,h1'.mono hk⟩
 | o =>
  refine ⟨default,default,fun ρ' s _ _=>⟨?_,fun β' e' k' _ _ f hm=>by cases hm⟩⟩
  simp only [At.parse] at h
  unfold tH at h
  split at h
  ·rfl
  ·cases h
def iw (db:List Fc):List At→List Cell→Option (List (RE×Nat))
 | [],[]=>some []
 | [],_ :: _=>none
 | a :: r,cs=>match a.parse db (cs.take a.n),iw db r (cs.drop a.n) with
  | some x,some l=>some (x :: l)
  | _,_=>none
def mW:List At→Nat→List Cell
 | [],_=>[]
 | a :: r,s=>a.cells s ++ mW r (s+2)
def gK:List At→Nat→List (RE×Nat)→List Fc
 | a :: r,s,x :: l=>a.fact s x.1 x.2 ++ gK r (s+2) l
 | _,_,_=>[]
def rel (β' β:Nat→Rat):List (RE×Nat)→List (RE×Nat)→Prop
 | [],[]=>True
 | x :: l,y :: m=>(x.1.ev β' = y.1.ev β∧y.2≤x.2)∧rel β' β l m
 | _,_=>False
theorem Gv {β' β:Nat→Rat}:∀ {a b:List (RE×Nat)} {l:List (RE×Nat)},rel β' β l (a ++ b)→rel β' β (l.take a.length) a∧rel β' β (l.drop a.length) b
 | [],b,l,h=>by simpa [rel] using h
 | x :: a,b,[],h=>by simp [rel] at h
 | x :: a,b,y :: l,h=>by
  obtain ⟨h1,h2⟩:(y.1.ev β' = x.1.ev β∧x.2≤y.2)∧rel β' β l (a ++ b):=h
  obtain ⟨h3,h4⟩:=Gv h2
  exact ⟨⟨h1,h3⟩,h4⟩
theorem AL:∀ {t:List At} {cs:List Cell} {xs:List (RE×Nat)},iw db t cs=some xs→xs.length=t.length
 | [],[],xs,h=>by simp [iw] at h;subst h;rfl
 | [],_ :: _,xs,h=>by simp [iw] at h
 | a :: r,cs,xs,h=>by
  simp only [iw] at h
  split at h
  ·rename_i x l h1 h2
   cases h
   simp [AL h2]
  ·cases h
theorem Ai (hf:∀ f∈db,(SQ β).on ρ f W):∀ {t:List At} {cs:List Cell} {xs:List (RE×Nat)},iw db t cs=some xs→∃ L:List Nv,L.length=2*t.length∧∀ (ρ':Env) s,(∀ i,i<2*t.length→ρ' (s+i)=L[i]?.getD default) →
  (mW t s).map (Cell.den ρ')=cs.map (Cell.den ρ)∧∀ (β':Nat→Rat) xs',rel β' β xs' xs→∀ f∈gK t s xs',(SQ β').on ρ' f W
 | [],[],xs,h=>⟨[],rfl,fun ρ' s _=>⟨rfl,fun β' xs' _ f hm=>by simp [gK] at hm⟩⟩
 | [],_ :: _,xs,h=>by simp [iw] at h
 | a :: r,cs,xs,h=>by
  simp only [iw] at h
  split at h
  ·rename_i x l h1 h2
   cases h
   obtain ⟨c,d,h3⟩:=At.name (e:=x.1) (k:=x.2) h1 hf
   obtain ⟨L,h4,h5⟩:=Ai hf h2
   refine ⟨c :: d :: L,by simp [h4];omega,fun ρ' s hρ=>?_⟩
   have c0:=hρ 0 (by simp <;> omega)
   have d0:=hρ 1 (by simp <;> omega)
   obtain ⟨g1,g2⟩:=h3 ρ' s (by simpa using c0) (by simpa using d0)
   obtain ⟨g3,g4⟩:=h5 ρ' (s+2) (fun i hi=>by
    have:=hρ (2+i) (by simp <;> omega)
    rw [← Nat.add_assoc,show 2+i=i+1+1 by omega] at this
    simpa using this)
   refine ⟨?_,fun β' xs' hr f hm=>?_⟩
   ·simp only [mW,List.map_append,g1,g3]
    rw [← List.map_append,List.take_append_drop]
   ·cases xs' with
    | nil=>simp [rel] at hr
    | cons y l' =>
     obtain ⟨⟨r1,r2⟩,r3⟩:=hr
     simp only [gK,List.mem_append] at hm
     rcases hm with hm | hm
     ·exact g2 β' _ _ r1 r2 f hm
     ·exact g4 β' l' r3 f hm
  ·cases h
def jh (db:List Fc):List (List At)→List SV→Option (List (RE×Nat))
 | [],[]=>some []
 | t :: r,.e (.a cs) :: l=>match iw db t cs,jh db r l with
  | some x,some y=>some (x ++ y)
  | _,_=>none
 | _,_=>none
def sW:List (List At)→Nat→List SV
 | [],_=>[]
 | t :: r,s=>.e (.a (mW t s)) :: sW r (s+2*t.length)
theorem Em:∀ {t r:List At} {s:Nat} {xs:List (RE×Nat)} {f:Fc},f∈gK (t ++ r) s xs→f∈gK t s (xs.take t.length)∨f∈gK r (s+2*t.length) (xs.drop t.length)
 | [],r,s,xs,f,h=>.inr (by simpa using h)
 | a :: t,r,s,[],f,h=>by simp [gK] at h
 | a :: t,r,s,x :: xs,f,h=>by
  simp only [List.cons_append,gK,List.mem_append] at h
  simp only [List.length_cons,List.take_succ_cons,List.drop_succ_cons,gK,List.mem_append]
  rcases h with h | h
  ·exact .inl (.inl h)
  ·rcases Em h with h | h
   ·exact .inl (.inr h)
   ·exact .inr (by rwa [show s+2*(t.length+1)=s+2+2*t.length by omega])
theorem Gl:∀ {ts:List (List At)} {args:List SV} {xs:List (RE×Nat)},jh db ts args=some xs→xs.length=ts.flatten.length
 | [],[],xs,h=>by simp [jh] at h;subst h;rfl
 | [],_ :: _,xs,h=>by simp [jh] at h
 | t :: r,[],xs,h=>by simp [jh] at h
 | t :: r,x :: l,xs,h=>by
  unfold jh at h
  split at h
  ·rename_i heq _;cases heq
  ·rename_i heq1 heq2
   cases heq1;cases heq2
   split at h
   ·rename_i x y g1 g2
    cases h
    simp [AL g1,Gl g2]
   ·cases h
  ·cases h
theorem FW (hf:∀ f∈db,(SQ β).on ρ f W):∀ {ts:List (List At)} {args:List SV} {xs:List (RE×Nat)},jh db ts args=some xs→∃ L:List Nv,L.length=2*ts.flatten.length∧∀ (ρ':Env) s,(∀ i,i<2*ts.flatten.length→ρ' (s+i)=L[i]?.getD default) →
  (sW ts s).map (SV.den ρ')=args.map (SV.den ρ)∧∀ (β':Nat→Rat) xs',rel β' β xs' xs→∀ f∈gK ts.flatten s xs',(SQ β').on ρ' f W
 | [],[],xs,h=>⟨[],rfl,fun ρ' s _=>⟨rfl,fun β' xs' _ f hm=>by simp [gK] at hm⟩⟩
 | [],_ :: _,xs,h=>by simp [jh] at h
 | t :: r,[],xs,h=>by simp [jh] at h
 | t :: r,x :: l,xs,h=>by
  unfold jh at h
  split at h
  ·rename_i heq _;cases heq
  ·rename_i _ _ cs _ heq1 heq2
   cases heq1;cases heq2
   split at h
   ·rename_i x y h1 h2
    cases h
    obtain ⟨L,h3,h4⟩:=Ai hf h1
    obtain ⟨L',h5,h6⟩:=FW hf h2
    refine ⟨L ++ L',by simp [h3,h5,Nat.mul_add],fun ρ' s hρ=>?_⟩
    obtain ⟨g1,g2⟩:=h4 ρ' s (fun i hi=>by
     have:=hρ i (by simp <;> omega)
     rwa [List.getElem?_append_left (by omega)] at this)
    obtain ⟨g3,g4⟩:=h6 ρ' (s+2*t.length) (fun i hi=>by
     have:=hρ (2*t.length+i) (by simp;simp at hi;omega)
     rw [List.getElem?_append_right (by omega),h3,Nat.add_sub_cancel_left,← Nat.add_assoc] at this
     exact this)
    refine ⟨?_,fun β' xs' hr f hm=>?_⟩
    ·simp only [sW,List.map_cons,g3]
     congr 1
     simp only [SV.den,El.den,g1]
    ·obtain ⟨r1,r2⟩:=Gv hr
     rw [AL h1] at r1 r2
     rcases Em (t:=t) (r:=r.flatten) (by simpa using hm) with hm | hm
     ·exact g2 β' _ r1 f hm
     ·exact g4 β' _ r2 f hm
   ·cases h
  ·cases h
end
def RE.sub' (es:List RE):RE→RE
 | .v n=>es.getD n (.c 0)
 | .c n=>.c n
 | .add a b=>.add (a.sub' es) (b.sub' es)
 | .sub a b=>.sub (a.sub' es) (b.sub' es)
 | .mul a b=>.mul (a.sub' es) (b.sub' es)
 | .div a b=>.div (a.sub' es) (b.sub' es)
 | .neg a=>.neg (a.sub' es)
 | .abs a=>.abs (a.sub' es)
 | .flo a=>.flo (a.sub' es)
 | .num a=>.num (a.sub' es)
 | .den a=>.den (a.sub' es)
def put (β:Nat→Rat) (es:List RE):Nat→Rat:=fun n=>(es.getD n (.c 0)).ev β
theorem jU {β:Nat→Rat} {es:List RE} (e:RE):(e.sub' es).ev β=e.ev (put β es):=by
 induction e with
 | v n=>rfl
 | c n=>rfl
 | add a b ih1 ih2=>show (a.sub' es).ev β+(b.sub' es).ev β=_;rw [ih1,ih2];rfl
 | sub a b ih1 ih2=>show (a.sub' es).ev β - (b.sub' es).ev β=_;rw [ih1,ih2];rfl
 | mul a b ih1 ih2=>show (a.sub' es).ev β*(b.sub' es).ev β=_;rw [ih1,ih2];rfl
 | div a b ih1 ih2=>show (a.sub' es).ev β / (b.sub' es).ev β=_;rw [ih1,ih2];rfl
 | neg a ih=>show -(a.sub' es).ev β=_;rw [ih];rfl
 | abs a ih=>show (if ((a.sub' es).ev β).num<0 then -(a.sub' es).ev β else (a.sub' es).ev β)=_;rw [ih];rfl
 | flo a ih=>show ((((a.sub' es).ev β).num / (((a.sub' es).ev β).den:Int):Int):Rat)=_;rw [ih];rfl
 | num a ih=>show (((a.sub' es).ev β).num:Rat)=_;rw [ih];rfl
 | den a ih=>show (((((a.sub' es).ev β).den:Nat):Int):Rat)=_;rw [ih];rfl
def RE.plain:RE→RE
 | .sub a b=>.add a.plain (.neg b.plain)
 | .add a b=>.add a.plain b.plain
 | .mul a b=>.mul a.plain b.plain
 | .div a b=>.div a.plain b.plain
 | .neg a=>.neg a.plain
 | e=>e
theorem Gm {β:Nat→Rat} (e:RE):e.plain.ev β=e.ev β:=by
 induction e with
 | add a b ih1 ih2=>show a.plain.ev β+b.plain.ev β=_;rw [ih1,ih2];rfl
 | sub a b ih1 ih2=>show a.plain.ev β + -b.plain.ev β=a.ev β - b.ev β;rw [ih1,ih2,Rat.sub_eq_add_neg]
 | mul a b ih1 ih2=>show a.plain.ev β*b.plain.ev β=_;rw [ih1,ih2];rfl
 | div a b ih1 ih2=>show a.plain.ev β / b.plain.ev β=_;rw [ih1,ih2];rfl
 | neg a ih=>show -a.plain.ev β=_;rw [ih];rfl
 | _=>rfl
def alike (k:Nat):List RE→List (RE×Nat)→Bool
 | [],[]=>true
 | o :: l,y :: m=>(o.plain.beq y.1.plain && decide (y.2≤k)) && alike k l m
 | _,_=>false
theorem CZ {β:Nat→Rat} {es:List RE} {k:Nat}:∀ {os:List RE} {ys:List (RE×Nat)},alike k os ys=true→rel β (put β es) (os.map fun o=>(o.sub' es,k)) ys
 | [],[],_=>trivial
 | [],_ :: _,h=>by simp [alike] at h
 | _ :: _,[],h=>by simp [alike] at h
 | o :: os,y :: ys,h=>by
  simp only [alike,Bool.and_eq_true,decide_eq_true_eq] at h
  refine ⟨⟨?_,h.1.2⟩,CZ h.2⟩
  rw [jU,← Gm o,RE.beq_eq h.1.1,Gm]
inductive Rs
 | at (t:List At) (os:List RE)
 | atb (t:List At) (os:List RE) (x:Bool)
 | bl (x:Bool)
def Rs.sv (b:Nat):Rs→SV
 | .at t _=>.e (.a (mW t b))
 | .atb t _ x=>.t [.a (mW t b),.s (.bl x)]
 | .bl x=>.e (.s (.bl x))
def Rs.fs (ko b:Nat) (es:List RE):Rs→List Fc
 | .at t os | .atb t os _=>gK t b (os.map fun o=>(o.sub' es,ko))
 | .bl _=>[]
def Rs.small:Rs→Bool
 | .at t _ | .atb t _ _=>decide (2*t.length≤M)
 | .bl _=>true
def outA (ko:Nat) (t:List At) (os:List RE):Option (SV×List Fc)→Bool
 | some (.e (.a cs),fs)=>match iw fs t cs with
  | some ys=>alike ko os ys
  | none=>false
 | _=>false
def Au (ko:Nat) (t:List At) (os:List RE) (x:Bool):Option (SV×List Fc)→Bool
 | some (.t [.a cs,.s (.bl y)],fs)=>match iw fs t cs with
  | some ys=>x == y && alike ko os ys
  | none=>false
 | _=>false
def Py (ko:Nat):Rs→Option (SV×List Fc)→Bool
 | .at t os,o=>outA ko t os o
 | .atb t os x,o=>Au ko t os x o
 | .bl x,o=>isB x o
theorem RS {ko:Nat} {t:List At} {os:List RE} {o:Option (SV×List Fc)} (h:outA ko t os o=true):∃ cs fs ys,o=some (.e (.a cs),fs)∧iw fs t cs=some ys∧alike ko os ys=true:=by
 unfold outA at h
 split at h
 ·split at h
  ·rename_i cs fs _ ys hp;exact ⟨cs,fs,ys,rfl,hp,h⟩
  ·cases h
 ·cases h
theorem RU {ko:Nat} {t:List At} {os:List RE} {x:Bool} {o:Option (SV×List Fc)} (h:Au ko t os x o=true):∃ cs fs ys,o=some (.t [.a cs,.s (.bl x)],fs)∧iw fs t cs=some ys∧alike ko os ys=true:=by
 unfold Au at h
 split at h
 ·split at h
  ·rename_i cs y fs _ ys hp
   simp only [Bool.and_eq_true,beq_iff_eq] at h
   exact ⟨cs,fs,ys,by rw [h.1],hp,h.2⟩
  ·cases h
 ·cases h
def hintB (h H0:Hint) (es:List RE):Bool:=
 H0.eq.all (fun p=>eqB h (p.1.sub' es) (p.2.sub' es)) && H0.ne.all (fun p=>h.ne.any fun x=>x.1.beq (p.1.sub' es) && x.2.beq (p.2.sub' es)) && H0.nz.all (fun p=>nzB h (p.sub' es)) && H0.sg.all (fun p=>sgB h (p.1.sub' es) == some p.2) && H0.cm.all (fun p=>cmB h (p.1.sub' es) (p.2.1.sub' es) == some p.2.2)
theorem OX {β:Nat→Rat} {h H0:Hint} {es:List RE} (hh:hintB h H0 es=true) (ok:h.Ok β):H0.Ok (put β es):=by
 unfold hintB at hh
 simp only [Bool.and_eq_true,List.all_eq_true] at hh
 obtain ⟨⟨⟨⟨h1,h2⟩,h3⟩,h4⟩,h5⟩:=hh
 refine ⟨fun p hp=>?_,fun p hp=>?_,fun p hp=>?_,fun p hp=>?_,fun p hp=>?_⟩
 ·rw [← jU,← jU];exact oW ok (h1 p hp)
 ·obtain ⟨x,hx,h6⟩:=List.any_eq_true.1 (h2 p hp)
  simp only [Bool.and_eq_true] at h6
  rw [← jU,← jU,← RE.beq_eq h6.1,← RE.beq_eq h6.2]
  exact ok.2.1 x hx
 ·rw [← jU];exact pY ok (h3 p hp)
 ·rw [← jU];exact Bg ok (by simpa using h4 p hp)
 ·rw [← jU,← jU];exact oL ok (by simpa using h5 p hp)
def vars (k:Nat):Nat→Nat→List (RE×Nat)
 | _,0=>[]
 | i,n+1=>(.v i,k) :: vars k (i+1) n
theorem Iq {β:Nat→Rat} {es:List RE} {k:Nat}:∀ {xs:List (RE×Nat)} {i:Nat},(∀ j x,xs[j]? = some x→(es.getD (i+j) (.c 0))=x.1∧x.2≤k)→rel (put β es) β (vars k i xs.length) xs
 | [],i,_=>trivial
 | x :: xs,i,h=>by
  have h0:=h 0 x rfl
  refine ⟨⟨?_,h0.2⟩,Iq fun j y hy=>?_⟩
  ·show (es.getD i (.c 0)).ev β=_
   rw [← h0.1];rfl
  ·have:=h (j+1) y (by simpa using hy)
   rwa [show i+1+j=i+(j+1) by omega]
def aZ (β:Nat→Rat) (h:Hint) (f:FuncId) (ins:List (List At)) (kin:Nat) (H0:Hint) (out:Rs) (ko:Nat):Con (SQ β) where
 fn:=f
 app:=fun db b args=>match jh db ins args with
  | some xs=>if xs.all (fun x=>decide (x.2≤kin)) && hintB h H0 (xs.map (·.1)) then some (out.sv b,out.fs ko b (xs.map (·.1))) else none
  | none=>none
theorem Dh {ko:Nat} {β γ:Nat→Rat} {es:List RE} {ρ ρ':Env} {W':World} {fs':List Fc} {t:List At} {cs:List Cell} {ys:List (RE×Nat)} {os:List RE} {b:Nat} (hg:γ=put β es) (hp:iw fs' t cs=some ys) (ha:alike ko os ys=true) (hs:2*t.length≤M) (hfs:∀ g∈fs',(SQ γ).on ρ' g W') :
  ∃ ρ'':Env,(∀ n,n<b∨b+M≤n→ρ'' n=ρ n)∧(mW t b).map (Cell.den ρ'')=cs.map (Cell.den ρ')∧∀ g∈gK t b (os.map fun o=>(o.sub' es,ko)),(SQ β).on ρ'' g W':=by
 subst hg
 obtain ⟨L,hL,hn⟩:=Ai hfs hp
 obtain ⟨h1,h2⟩:=hn (aH ρ b L) b (fun i hi=>by
  unfold aH
  rw [if_pos (by omega),Nat.add_sub_cancel_left,List.getElem?_eq_getElem (by omega)];rfl)
 exact ⟨aH ρ b L,gu (by omega),h1,h2 β _ (CZ ha)⟩
theorem yF {β:Nat→Rat} {h:Hint} {f:FuncId} {ins:List (List At)} {kin:Nat} {H0:Hint} {out:Rs} {ko:Nat} (ok:h.Ok β) (hs:out.small=true)
  (run:∀ γ:Nat→Rat,H0.Ok γ→∃ (H1:Hint) (ok1:H1.Ok γ) (fuel:Nat) (cons:List (Con (SQ γ))),(∀ c∈cons,c.Ok Tryz.prog (SQ γ) EV)∧Py ko out (runF Tryz.prog (SQ γ) (HQ γ H1 ok1) cons fuel f (sW ins 0) (gK ins.flatten 0 (vars kin 0 ins.flatten.length)) (2*ins.flatten.length))=true) :
  (aZ β h f ins kin H0 out ko).Ok Tryz.prog (SQ β) EV:=by
 intro db b args res new ha ρ W hf hE
 simp only [aZ] at ha
 split at ha
 ·rename_i xs hx
  split at ha
  ·rename_i hh
   simp only [Bool.and_eq_true,List.all_eq_true,decide_eq_true_eq] at hh
   cases ha
   obtain ⟨es,hes⟩:∃ es,xs.map (·.1)=es:=⟨_,rfl⟩
   rw [hes] at hh ⊢
   obtain ⟨H1,ok1,fuel,cons,hc,hr⟩:=run (put β es) (OX hh.2 ok)
   obtain ⟨L,hL,hn⟩:=FW hf hx
   obtain ⟨h1,h2⟩:=hn (fun i=>L[i]?.getD default) 0 (fun i hi=>by simp)
   have hlen:=Gl hx
   have hfacts:=h2 (put β es) (vars kin 0 ins.flatten.length) (by
    rw [← hlen]
    refine Iq fun j x hj=>⟨?_,hh.1 x (List.mem_of_getElem? hj)⟩
    rw [← hes,Nat.zero_add,List.getD_eq_getElem?_getD,List.getElem?_map,hj];rfl)
   rw [← h1]
   cases out with
   | «at» t os =>
    have hs':2*t.length≤M:=by simpa [Rs.small] using hs
    obtain ⟨cs,fs',ys,hrun,hp,hr⟩:=RS hr
    refine (runF_ok mixed hc hrun (dM hE) hfacts).mono fun x W' ⟨ρ',_,hx',hb,hfs⟩=>?_
    obtain ⟨ρ'',a1,a2,a3⟩:=Dh (ρ:=ρ) (b:=b) rfl hp hr hs' hfs
    exact ⟨ρ'',a1,by rw [hx'];simp only [Rs.sv,SV.den,El.den,a2],hb,a3⟩
   | atb t os y =>
    have hs':2*t.length≤M:=by simpa [Rs.small] using hs
    obtain ⟨cs,fs',ys,hrun,hp,hr⟩:=RU hr
    refine (runF_ok mixed hc hrun (dM hE) hfacts).mono fun x W' ⟨ρ',_,hx',hb,hfs⟩=>?_
    obtain ⟨ρ'',a1,a2,a3⟩:=Dh (ρ:=ρ) (b:=b) rfl hp hr hs' hfs
    exact ⟨ρ'',a1,by rw [hx'];simp only [Rs.sv,SV.den,El.den,List.map_cons,List.map_nil,a2];rfl,hb,a3⟩
   | bl y =>
    obtain ⟨fs',hrun⟩:=EN hr
    refine (runF_ok mixed hc hrun (dM hE) hfacts).mono fun x W' ⟨ρ',_,hx',hb,hfs⟩=>⟨ρ,fun _ _=>rfl,?_,hb,fun g hg=>by cases hg⟩
    rw [hx'];rfl
  ·cases ha
 ·cases ha
end Rx
namespace Z4
open Go.RowKit Go.Sort Go.Lib
theorem D5 (w:World):Calls Tryz.prog 125 #[.agg #[.bool false,.slice none 0 0,.bool false,.slice none 0 0]] w (iI w 1):=by
 have HN:=hid (fun (W:World)=>lV 1 (by decide) (by decide) W)
 go_enter Tryz.func125,Tryz.ntmps125
 go_wp2_with fail
 have hS0:=hid (((St.start w).alloc' (w.heap.size) (by simp) 40 [.bool false,.slice none 0 0,.bool false,.slice none 0 0]).alloc' (w.heap.size+1) (by simp) 38 [.bool false,.slice none 0 0])
 obtain ⟨W0,hW0⟩:=aQ hS0
 rw [hW0] at hS0 ⊢
 clear hW0
 refine (HN.out _).mono ?_
 rintro e w1 hret
 obtain ⟨v1,rfl,hz1,hB⟩:=hret.z
 clear hret
 obtain ⟨t1,p1,l1,k1,rfl⟩:=hz1.open
 have hS1:=hid (hS0.out.call hB)
 clear hB hS0
 have hS2:=hid (hS1.out.fact (.z (.agg #[.bool t1,.slice p1 l1 k1]) 1) hz1)
 clear hS1 hz1
 obtain ⟨⟨cR0,cR1⟩,fR0,fR1⟩:=hS2.out.f2 0 (w.heap.size+1) 38 (.bool false) (.slice none 0 0) rfl
 have hS3:=hid (((hS2.out).store (b:=⟨w.heap.size+1,38,[.bool false,.slice none 0 0]⟩) 0 0 (.bool t1) rfl rfl).store (b:=⟨w.heap.size+1,38,[.bool t1,.slice none 0 0]⟩) 0 1 (.slice p1 l1 k1) rfl rfl)
 go_wp2_with fail
 clear cR0 cR1 fR0 fR1
 obtain ⟨⟨zR0,zR1⟩,-⟩:=hS3.out.f2 0 (w.heap.size+1) 38 (.bool t1) (.slice p1 l1 k1) rfl
 exact bodyPost_ret (v:=.agg #[.bool t1,.slice p1 l1 k1]) (by simp [results,Tryz.results125,go_sem,zR0,zR1]) rfl ⟨_,rfl,hS3.out.get (f:=.z (.agg #[.bool t1,.slice p1 l1 k1]) 1) 0 rfl,hS3.out.bel⟩
theorem TQ (w:World):Calls Tryz.prog 121 #[.agg #[.bool false,.slice none 0 0,.bool false,.slice none 0 0]] w (eX w [48]):=by
 have HN:=hid (fun (W:World)=>IQ false none 0 W)
 have HM:=hid (fun (W:World) (v:Value) (a:IsZ W v 1)=>show Calls Tryz.prog 172 #[v] W (eX W [49]) by
  have h:=BM _ v W a 1 (by decide) (by decide)
  rwa [show fM 1=[49] by unfold fM;rw [if_neg (by decide),decDigits];rfl] at h)
 have HD:=hid (fun (W:World)=>D5 W)
 go_enter Tryz.func121,Tryz.ntmps121
 go_wp2_with fail
 have hS0:=hid ((St.start w).alloc' (w.heap.size) (by simp) 40 [.bool false,.slice none 0 0,.bool false,.slice none 0 0])
 obtain ⟨W0,hW0⟩:=aQ hS0
 rw [hW0] at hS0 ⊢
 clear hW0
 obtain ⟨⟨cR0,cR1,cR2,cR3⟩,fR0,fR1,fR2,fR3⟩:=hS0.out.f4 0 w.heap.size 40 (.bool false) (.slice none 0 0) (.bool false) (.slice none 0 0) rfl
 go_wp2_with fail
 clear cR0 cR1 cR2 cR3 fR0 fR1 fR2 fR3
 refine (HN.out _).mono ?_
 rintro e w1 ⟨rfl,hB⟩
 have hS2:=hid (hS0.out.call hB)
 clear hS0 hB
 obtain ⟨⟨cR0,cR1,cR2,cR3⟩,fR0,fR1,fR2,fR3⟩:=hS2.out.f4 0 w.heap.size 40 (.bool false) (.slice none 0 0) (.bool false) (.slice none 0 0) rfl
 go_wp2_with fail
 clear cR0 cR1 cR2 cR3 fR0 fR1 fR2 fR3
 refine (HD.out _).mono ?_
 rintro e w2 ⟨v2,rfl,hz2,hB⟩
 have hS3:=hid (hS2.out.call hB)
 clear hS2 hB
 obtain ⟨t2,p2,l2,k2,rfl⟩:=hz2.open
 have hZ:=hid hz2
 clear hz2
 go_wp2_with fail
 refine (HM.out _ _ hZ.out).mono ?_
 rintro e w3 ⟨rfl,hB⟩
 have hS4:=hid (hS3.out.call hB)
 clear hS3 hB hZ
 go_wp2
 go_ret
 exact ⟨rfl,hS4.out.bel⟩
end Z4
namespace Rx
open Go.RowKit
section
variable (β:Nat→Rat) (h:Hint)
def um (f:FuncId) (op:RE→RE) (side:RE→Bool):Con (SQ β) where
 fn:=f
 app:=fun db b args=>match args with
  | [.e (.a x)]=>match iJ db x with
   | some (e,k)=>if decide (k≤K2) && side e then some (.e (.a (aW b)),[.r b (op e) k]) else none
   | none=>none
  | _=>none
def qK (f:FuncId) (op:RE→RE→RE) (sz:Nat→Nat→Nat) (side:RE→RE→Bool):Con (SQ β) where
 fn:=f
 app:=fun db b args=>match args with
  | [.e (.a x),.e (.a y)]=>match iJ db x,iJ db y with
   | some (e,k),some (e',k')=>if decide (k≤K2) && decide (k'≤K2) && side e e' then some (.e (.a (aW b)),[.r b (op e e') (sz k k')]) else none
   | _,_=>none
  | _=>none
def yS:Con (SQ β) where
 fn:=39
 app:=fun db _ args=>match args with
  | [.e (.a x),.e (.a y)]=>match iJ db x,iJ db y with
   | some (e,k),some (e',k')=>if decide (k≤K2) && decide (k'≤K2) then (match cmB h e e' with
     | some n=>some (.e (.s (.it .i64 n)),[])
     | none=>none) else none
   | _,_=>none
  | _=>none
def yV:Con (SQ β) where
 fn:=24
 app:=fun db _ args=>match args with
  | [.e (.a x)]=>match iJ db x with
   | some (e,k)=>if k≤K2 then (match sgB h e with
     | some n=>some (.e (.s (.it .i64 n)),[])
     | none=>none) else none
   | none=>none
  | _=>none
def yU:Con (SQ β) where
 fn:=27
 app:=fun _ b args=>match args with
  | [.e (.s (.it .i64 1))]=>some (.e (.a (aW b)),[.r b (.c 1) 1])
  | [.e (.s (.it .i64 2))]=>some (.e (.a (aW b)),[.r b (.c 2) 1])
  | _=>none
def y8:Con (SQ β) where
 fn:=97
 app:=fun db b args=>match args with
  | [.e (.a x)]=>match dX db x with
   | some (e,k)=>if k≤K0 then some (.e (.s (.ot b)),[.x b e]) else none
   | none=>none
  | _=>none
def yX:Con (SQ β) where
 fn:=121
 app:=fun db b args=>match args with
  | [.e (.a x)]=>match iJ db x with
   | some (e,k)=>if k≤K0 then some (.e (.s (.ot b)),[.x b e]) else none
   | none=>match tH x with
    | some _=>some (.e (.s (.ot b)),[.x b (.c 0)])
    | none=>none
  | _=>none
def zl:List (Con (SQ β)):=[qK β 29 .add (fun a b=>a+b+1) (fun _ _=>true),qK β 33 .mul (fun a b=>a+b) (fun _ _=>true),qK β 25 .div (fun a b=>a+b+1) (fun _ e=>nzB h e),
 um β 35 .neg (fun _=>true),um β 37 .abs (fun _=>true),yS β h,yV β h,yU β,y8 β,yX β]
def c0:List (Con (SQ β)):=zl β h ++ cq β h
end
section
variable {β:Nat→Rat} {h:Hint} {f:FuncId} {vals:Array Value} {W:World} {ρ:Env} {b:Nat}
theorem oI {e:RE} {k:Nat} (hc:Calls Tryz.prog f vals W (Z4.dW W (e.ev β))) (hk:Fits k (e.ev β)):Calls Tryz.prog f vals W (Ans β ρ b W (.e (.a (aW b))) [.r b e k]):=by
 refine hc.mono fun _ W' ⟨v,he,hv,hb⟩=>?_
 obtain ⟨c,d,rfl⟩:=lM hv
 have h1:(aW b).map (Cell.den (aH ρ b [c,d]))=[.bool c.b,.slice c.p c.l c.c,.bool false,.slice d.p d.l d.c]:=by simp [aW,Cell.den,aH]
 refine ⟨aH ρ b [c,d],gu (by simp [M]),?_,hb,fun g hg=>?_⟩
 ·rw [he];simp only [SV.den,El.den,h1]
 ·rw [List.mem_singleton] at hg
  subst hg
  exact ⟨by rw [h1];exact hv,hk⟩
theorem xR {e:RE} {l:List UInt8} (hc:Calls Tryz.prog f vals W (eX W l)) (hl:l=fV (e.ev β)):Calls Tryz.prog f vals W (Ans β ρ b W (.e (.s (.ot b))) [.x b e]):=by
 refine hc.mono fun _ W' ⟨he,hb⟩=>?_
 refine ⟨aH ρ b [⟨false,0,none,0,0,⟨l.toArray⟩,0⟩],gu (by simp [M]),?_,hb,fun g hg=>?_⟩
 ·rw [he];simp [SV.den,El.den,Cell.den,aH]
 ·rw [List.mem_singleton] at hg
  subst hg
  show (aH ρ b _ b).t=_
  rw [← hl]
  simp [aH]
theorem DL {op:RE→RE} {side:RE→Bool} (hc:∀ e v W,side e=true→Z4.IsR W v (e.ev β)→Fits K2 (e.ev β)→EV W→Calls Tryz.prog f #[v] W (Z4.dW W ((op e).ev β))) (hs:∀ e k,Fits k (e.ev β)→Fits k ((op e).ev β)):(um β f op side).Ok Tryz.prog (SQ β) EV:=by
 intro db b args res new ha ρ W hf hE
 simp only [um] at ha
 split at ha
 ·split at ha
  ·rename_i e k hx
   split at ha
   ·rename_i hk
    simp only [Bool.and_eq_true,decide_eq_true_eq] at hk
    cases ha
    obtain ⟨h1,h2⟩:=jr hx hf
    exact oI (hc e _ W hk.2 h1 (h2.mono hk.1) hE) (hs e k h2)
   ·cases ha
  ·cases ha
 ·cases ha
theorem yO {op:RE→RE→RE} {sz:Nat→Nat→Nat} {side:RE→RE→Bool} (hc:∀ e e' v v' W,side e e' = true→Z4.IsR W v (e.ev β)→Z4.IsR W v' (e'.ev β)→Fits K2 (e.ev β)→Fits K2 (e'.ev β)→EV W→Calls Tryz.prog f #[v,v'] W (Z4.dW W ((op e e').ev β)))
  (hs:∀ e e' k k',Fits k (e.ev β)→Fits k' (e'.ev β)→Fits (sz k k') ((op e e').ev β)):(qK β f op sz side).Ok Tryz.prog (SQ β) EV:=by
 intro db b args res new ha ρ W hf hE
 simp only [qK] at ha
 split at ha
 ·split at ha
  ·rename_i e k e' k' hx hy
   split at ha
   ·rename_i hk
    simp only [Bool.and_eq_true,decide_eq_true_eq] at hk
    cases ha
    obtain ⟨h1,h2⟩:=jr hx hf
    obtain ⟨h3,h4⟩:=jr hy hf
    exact oI (hc e e' _ _ W hk.2 h1 h3 (h2.mono hk.1.1) (h4.mono hk.1.2) hE) (hs e e' k k' h2 h4)
   ·cases ha
  ·cases ha
 ·cases ha
theorem KW (ok:h.Ok β):(yS β h).Ok Tryz.prog (SQ β) EV:=by
 intro db b args res new ha ρ W hf hE
 simp only [yS] at ha
 split at ha
 ·split at ha
  ·rename_i e k e' k' hx hy
   split at ha
   ·rename_i hk
    simp only [Bool.and_eq_true,decide_eq_true_eq] at hk
    split at ha
    ·rename_i n hn
     cases ha
     obtain ⟨h1,h2⟩:=jr hx hf
     obtain ⟨h3,h4⟩:=jr hy hf
     have hc:=S9 h1 h3 (h2.mono hk.1) (h4.mono hk.2) hE
     rw [oL ok hn] at hc
     exact oG hc rfl
    ·cases ha
   ·cases ha
  ·cases ha
 ·cases ha
theorem KY (ok:h.Ok β):(yV β h).Ok Tryz.prog (SQ β) EV:=by
 intro db b args res new ha ρ W hf hE
 simp only [yV] at ha
 split at ha
 ·split at ha
  ·rename_i e k hx
   split at ha
   ·rename_i hk
    split at ha
    ·rename_i n hn
     cases ha
     obtain ⟨h1,h2⟩:=jr hx hf
     have hc:=TL h1 (h2.mono hk) hE
     rw [Bg ok hn] at hc
     exact oG hc rfl
    ·cases ha
   ·cases ha
  ·cases ha
 ·cases ha
theorem KX:(yU β).Ok Tryz.prog (SQ β) EV:=by
 intro db b args res new ha ρ W hf hE
 simp only [yU] at ha
 split at ha
 ·cases ha
  exact oI (e:=.c 1) (Tj hE) (fits_int (n:=1) (by decide) (by decide))
 ·cases ha
  exact oI (e:=.c 2) (Tn hE) (fits_int (n:=2) (by decide) (by decide))
 ·cases ha
theorem Ld:(y8 β).Ok Tryz.prog (SQ β) EV:=by
 intro db b args res new ha ρ W hf hE
 simp only [y8] at ha
 split at ha
 ·split at ha
  ·rename_i e k hx
   split at ha
   ·rename_i hk
    cases ha
    obtain ⟨⟨h1,h2⟩,-⟩:=fF hx hf
    exact xR (CQ _ _ k W h1 hk h2 hE.ten) rfl
   ·cases ha
  ·cases ha
 ·cases ha
theorem text0:fV 0=[48]:=by
 unfold fV
 rw [if_neg (by decide),if_pos (by decide),show (0:Rat).num.natAbs=0 from rfl,Lib.decDigits];rfl
theorem KZ:(yX β).Ok Tryz.prog (SQ β) EV:=by
 intro db b args res new ha ρ W hf hE
 simp only [yX] at ha
 split at ha
 ·split at ha
  ·rename_i e k hx
   split at ha
   ·rename_i hk
    cases ha
    obtain ⟨h1,h2⟩:=jr hx hf
    exact xR (Z4.TN _ _ W h1 k hk h2) rfl
   ·cases ha
  ·split at ha
   ·rename_i hz
    cases ha
    unfold tH at hz
    split at hz
    ·exact xR (e:=.c 0) (Z4.TQ W) text0.symm
    ·cases hz
   ·cases ha
 ·cases ha
theorem Lm (ok:h.Ok β):∀ c∈zl β h,c.Ok Tryz.prog (SQ β) EV:=by
 unfold zl
 simp only [List.forall_mem_cons,List.not_mem_nil,false_imp_iff,implies_true,and_true]
 exact ⟨yO (fun _ _ _ _ _ _ h1 h2 f1 f2 hE=>SK h1 h2 f1 f2 hE) (fun _ _ _ _ h1 h2=>h1.plus h2),
  yO (fun _ _ _ _ _ _ h1 h2 f1 f2 hE=>Tv h1 h2 f1 f2 hE) (fun _ _ _ _ h1 h2=>h1.mul h2),
  yO (fun _ _ _ _ _ hn h1 h2 f1 f2 hE=>Tc h1 h2 f1 f2 (pY ok hn) hE) (fun _ _ _ _ h1 h2=>h1.over h2),
  DL (fun _ _ _ _ h1 f1 hE=>Tz h1 f1 hE) (fun _ _ h1=>h1.neg),DL (fun _ _ _ _ h1 f1 hE=>SI h1 f1 hE) (fun _ _ h1=>Es h1),
  KW ok,KY ok,KX,Ld,KZ⟩
theorem qH (ok:h.Ok β):∀ c∈c0 β h,c.Ok Tryz.prog (SQ β) EV:=fun c hc=>by
 rcases List.mem_append.1 hc with hc | hc
 ·exact Lm ok c hc
 ·exact zk ok c hc
end
end Rx
end Go.Proofs.YtcglmmbgoonjnaaGreatDoor
