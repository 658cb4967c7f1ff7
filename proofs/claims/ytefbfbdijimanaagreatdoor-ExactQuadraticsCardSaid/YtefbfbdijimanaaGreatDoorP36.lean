/- What the proof rests on, part 36. -/
import Derived.Test.YtefbfbdijimanaaGreatDoorP35
import Derived.Test.YtefbfbdijimanaaGreatDoorP30
import Derived.Test.YtefbfbdijimanaaGreatDoorP34
namespace Go.Proofs.YtefbfbdijimanaaGreatDoor
set_option maxRecDepth 100000
set_option maxHeartbeats 80000000
namespace Rx
open Go.RowKit
theorem J4 {n s:Nat} (h1:s*s≤n) (h2:n<(s+1)*(s+1)):s=isq n:=Mc n s (isq n) h1 h2 (vH n).1 (vH n).2
def eR (i j:Nat):En:=⟨141,[.c [.m i]],.c [.m j]⟩
section
variable {T:World→Prop} {β:Nat→Nat} {r:Rat}
theorem Jd {i j K:Nat} (h:isq (β i)=β j) (hK:K≤8589934592) (h1:β i<B64 ^ K):(eR i j).Ok T β r:=by
 intro W vs hv hT
 match vs,hv with
 | [v],⟨⟨us,hu,ha⟩,_⟩ =>
  obtain ⟨c,d,rfl,h2⟩:=kG ha
  subst hu
  refine (L9 c d (β i) K W h2 hK h1).mono fun x W' ⟨s,g1,g2,c',d',hx,hm,hb⟩=>⟨[c',d'],hx,⟨?_,trivial⟩,hb⟩
  rw [← h,← J4 g1 g2];exact hm
def sZ (z y:Bool):Option (SV×List Fm)→Bool
 | some (.t [.a cs,.s (.bl x)],fs)=>x == y && isW z (some (.e (.a cs),fs))
 | _=>false
theorem V7 {z y:Bool} {o:Option (SV×List Fm)} (h:sZ z y o=true):∃ cs fs,o=some (.t [.a cs,.s (.bl y)],fs)∧isW z (some (.e (.a cs),fs))=true:=by
 unfold sZ at h
 split at h
 ·rename_i cs x fs
  simp only [Bool.and_eq_true,beq_iff_eq] at h
  exact ⟨cs,fs,by rw [h.1],h.2⟩
 ·cases h
theorem FW {es:List En} {fuel:Nat} {f:FuncId} {args:List SV} {fs:List Fm} {b:Nat} {ρ:Env} {w:World} {z y:Bool} {ls:List (Nat×Nat)} (hls:∀ p∈ls,β p.1=p.2∧p.2<B64) (he:∀ e∈es,e.Ok T β r)
  (hr:sZ z y (aV Tryz.prog (SM β r) (HM β r) (es.map (bU β r ls)) fuel f args fs b)=true) (hz:z=true→r=0) (hT:∀ W,Below w.heap.size w W→T W) (hf:∀ g∈fs,Fm.on β r ρ g w):Calls Tryz.prog f (args.map (SV.den ρ)).toArray w (wV w r y):=by
 have hc:∀ c∈es.map (bU β r ls),c.Ok Tryz.prog (SM β r) T:=fun c hc=>by
  obtain ⟨e,h1,rfl⟩:=List.mem_map.1 hc
  exact xO hls (he e h1)
 obtain ⟨cs,fs',heq,hw⟩:=V7 hr
 refine (fU mixed hc heq hT hf).mono fun e W' ⟨ρ',_,hx,hb,hfs⟩=>⟨.agg (cs.map (Cell.den ρ')).toArray,by rw [hx];rfl,?_,hb⟩
 rcases JZ hw with ⟨a,fs2,h1,h2⟩ | ⟨fs2,h1,h2⟩
 ·cases h1
  exact hfs _ (vk h2)
 ·cases h1
  rw [hz h2];exact qh _
abbrev erT (c1 c2:Int):List En:=[eR 0 3,eU false 0 1 2,eR 2 4,eT 3 3 5,eC 5 0 c1,eT 4 4 6,eC 6 2 c2]
theorem DW (β:Nat→Nat) (r:Rat):sZ false true (aV Tryz.prog (SM β r) (HM β r) ((erT 0 0 ++ [eL false 3 4]).map (bU β r [])) 1 100 [nC false 0 1] [.m 0 0,.m 1 1] 4)=true ∧
  (∀ c∈[(-1:Int),1],∀ o,sZ true false (aV Tryz.prog (SM β r) (HM β r) ((erT c o).map (bU β r [])) 1 100 [nC false 0 1] [.m 0 0,.m 1 1] 4)=true) ∧
  (∀ c∈[(-1:Int),1],sZ true false (aV Tryz.prog (SM β r) (HM β r) ((erT 0 c).map (bU β r [])) 1 100 [nC false 0 1] [.m 0 0,.m 1 1] 4)=true):=by
 simp only [List.forall_mem_cons,List.not_mem_nil,false_imp_iff,implies_true,and_true]
 exact ⟨by kernel_rfl,⟨fun _=>by kernel_rfl,fun _=>by kernel_rfl⟩,by kernel_rfl,by kernel_rfl⟩
end
theorem EM {β:Nat→Nat} {r:Rat} {t1:Bool} {x1 y1:Int} {p1 r1:Option Addr} {l1 q1 s1 v1:Nat} {w:World} {f:FuncId} {R:Ending→World→Prop} (i1:ah w (.int .u64 x1) (.slice p1 l1 q1) (β 0)) (j1:ah w (.int .u64 y1) (.slice r1 s1 v1) (β 1))
  (go:∀ ρ:Env,(∀ g∈[Fm.m 0 0,.m 1 1],Fm.on β r ρ g w)→Calls Tryz.prog f ([nC t1 0 1].map (SV.den ρ)).toArray w R):Calls Tryz.prog f #[.agg #[.bool t1,.int .u64 x1,.slice p1 l1 q1,.int .u64 y1,.slice r1 s1 v1]] w R:=by
 refine go (em [⟨false,x1,p1,l1,q1,.empty,0,default⟩,⟨false,y1,r1,s1,v1,.empty,0,default⟩]) fun g hg=>?_
 simp only [List.mem_cons,List.not_mem_nil,or_false] at hg
 rcases hg with rfl | rfl
 ·exact i1
 ·exact j1
theorem vG {n K:Nat} (h:n<B64 ^ K):isq n<B64 ^ K:=Nat.lt_of_le_of_lt (by
 have h1:=(vH n).1
 rcases Nat.eq_zero_or_pos (isq n) with h0 | h0
 ·omega
 ·exact Nat.le_trans (Nat.le_mul_of_pos_right _ h0) h1) h
theorem Ep {n:Nat} (h:n≠0):isq n≠0:=fun h0=>by
 have:=(vH n).2
 rw [h0] at this
 omega
theorem Ip {a b:Nat} (h:a≠b):aC a b∈[(-1:Int),1]:=by
 unfold aC
 split
 ·simp
 ·simp
theorem TA (r:Rat) (v:Value) (k:Nat) (w:World) (h:IsQ w v r) (h0:¬ r.num<0) (hk:k≤8589934592) (hf:Fits k r) :
  ((isq r.num.natAbs*isq r.num.natAbs=r.num.natAbs∧isq r.den*isq r.den=r.den)→Calls Tryz.prog 100 #[v] w (wV w (mkRat (isq r.num.natAbs) (isq r.den)) true)) ∧
  (¬(isq r.num.natAbs*isq r.num.natAbs=r.num.natAbs∧isq r.den*isq r.den=r.den)→Calls Tryz.prog 100 #[v] w (wV w 0 false)):=by
 obtain ⟨t1,x1,p1,l1,q1,y1,r1,s1,u1,rfl,i1,j1,e1⟩:=h.shape
 have e1':=e1.out
 rw [decide_eq_false h0] at e1'
 subst e1'
 have hd:=r.den_nz
 have hu:=bI r
 have lt:=vG hf.1
 have lt':=vG hf.2
 let γ:=bt [r.num.natAbs,bn r,r.den,isq r.num.natAbs,isq r.den,isq r.num.natAbs*isq r.num.natAbs,isq r.den*isq r.den]
 have key:∀ (q:Rat) (c1 c2:Int),aC (isq r.num.natAbs*isq r.num.natAbs) r.num.natAbs=c1→aC (isq r.den*isq r.den) r.den=c2→∀ e∈erT c1 c2,e.Ok (fun _=>True) γ q:=fun q c1 c2 h1 h2 e he=>by
  simp only [erT,List.mem_cons,List.not_mem_nil,or_false] at he
  rcases he with rfl | rfl | rfl | rfl | rfl | rfl | rfl
  ·exact Jd (K:=k) rfl hk hf.1
  ·exact lC hu
  ·exact Jd (K:=k) rfl hk hf.2
  ·exact lu (K:=k) rfl (by omega) lt lt
  ·exact rW (K:=k+k) h1 (by omega) (nZ lt lt)
  ·exact lu (K:=k) rfl (by omega) lt' lt'
  ·exact rW (K:=k+k) h2 (by omega) (nZ lt' lt')
 constructor
 ·rintro ⟨h1,h2⟩
  refine EM (β:=γ) (r:=mkRat (isq r.num.natAbs) (isq r.den)) i1 j1 fun _ hg=>FW (T:=fun _=>True) iF (fun e he=>?_) (DW _ _).1 (fun h=>by cases h) (fun _ _=>trivial) hg
  rcases List.mem_append.1 he with he | he
  ·exact key _ 0 0 (by rw [h1];unfold aC;simp) (by rw [h2];unfold aC;simp) e he
  ·obtain rfl:=List.mem_singleton.1 he
   refine yg ?_ (Ep hd) rfl
   show Nat.Coprime (isq r.num.natAbs) (isq r.den)
   have:=r.reduced
   rw [← h1,← h2] at this
   exact Nat.Coprime.coprime_dvd_left (Nat.dvd_mul_right _ _) (Nat.Coprime.coprime_dvd_right (Nat.dvd_mul_right _ _) this)
 ·intro hn
  by_cases h1:isq r.num.natAbs*isq r.num.natAbs=r.num.natAbs
  ·have h2:isq r.den*isq r.den≠r.den:=fun h2=>hn ⟨h1,h2⟩
   exact EM (β:=γ) (r:=0) i1 j1 fun _ hg=>FW (T:=fun _=>True) iF (fun e he=>key 0 0 _ (by rw [h1];unfold aC;simp) rfl e he) ((DW _ _).2.2 _ (Ip h2)) (fun _=>rfl) (fun _ _=>trivial) hg
  ·exact EM (β:=γ) (r:=0) i1 j1 fun _ hg=>FW (T:=fun _=>True) iF (fun e he=>key 0 _ _ rfl rfl e he) ((DW _ _).2.1 _ (Ip h1) _) (fun _=>rfl) (fun _ _=>trivial) hg
section
variable (β:Nat→Rat) (h:Hint)
def sq2 (e:RE):RE:=.mul (.rt e) (.rt e)
def yN (e:RE):Bool:=eqB h (sq2 (.num e)) (.num e) && eqB h (sq2 (.den e)) (.den e)
def zI (e:RE):Bool:=h.ne.any (fun x=>x.1.beq (sq2 (.num e)) && x.2.beq (.num e)) || h.ne.any (fun x=>x.1.beq (sq2 (.den e)) && x.2.beq (.den e))
def rtE (e:RE):RE:=.div (.rt (.num e)) (.rt (.den e))
def CJ:Con (SQ β) where
 fn:=100
 app:=fun db b args=>match args with
  | [.e (.a x)]=>match dW db x with
   | some (e,k)=>if decide (k≤K0) && decide (sgB h e=some 1) then
     (if yN h e then some (.t [.a (aI b),.s (.bl true)],[.q b (rtE e) k]) else
     if zI h e then some (.t [.a (aI b),.s (.bl false)],[.q b (.c 0) 1]) else none) else none
   | none=>none
  | _=>none
end
section
variable {β:Nat→Rat} {h:Hint} {f:FuncId} {vals:Array Value} {W:World} {ρ:Env} {b:Nat}
theorem MI (r:Rat):(isq ((r.num:Int):Rat).num.natAbs)=isq r.num.natAbs:=by rw [Rat.num_intCast]
theorem FU (r:Rat):(isq ((((r.den:Nat):Int):Rat)).num.natAbs)=isq r.den:=by rw [Rat.num_intCast,Int.natAbs_natCast]
theorem qI (e:RE):(rtE e).ev β=mkRat (isq (e.ev β).num.natAbs) (isq (e.ev β).den):=by
 show (((isq (((e.ev β).num:Int):Rat).num.natAbs:Nat):Int):Rat) / (((isq ((((e.ev β).den:Nat):Int):Rat).num.natAbs:Nat):Int):Rat)=_
 rw [MI,FU,← Rat.divInt_eq_div,← Rat.divInt_ofNat]
theorem wF {e:RE} (h0:¬ (e.ev β).num<0):(sq2 (.num e)).ev β=(RE.num e).ev β↔isq (e.ev β).num.natAbs*isq (e.ev β).num.natAbs=(e.ev β).num.natAbs:=by
 show (((isq (((e.ev β).num:Int):Rat).num.natAbs:Nat):Int):Rat)*(((isq (((e.ev β).num:Int):Rat).num.natAbs:Nat):Int):Rat)=(((e.ev β).num:Int):Rat)↔_
 rw [MI,← Rat.intCast_mul]
 constructor
 ·intro h1
  have h2:((isq (e.ev β).num.natAbs:Nat):Int)*((isq (e.ev β).num.natAbs:Nat):Int)=(e.ev β).num:=by exact_mod_cast h1
  rw [← Int.natCast_mul] at h2
  omega
 ·intro h1
  have h2:((isq (e.ev β).num.natAbs:Nat):Int)*((isq (e.ev β).num.natAbs:Nat):Int)=(e.ev β).num:=by rw [← Int.natCast_mul,h1];omega
  rw [h2]
theorem Aj {e:RE}:(sq2 (.den e)).ev β=(RE.den e).ev β↔isq (e.ev β).den*isq (e.ev β).den=(e.ev β).den:=by
 show (((isq ((((e.ev β).den:Nat):Int):Rat).num.natAbs:Nat):Int):Rat)*(((isq ((((e.ev β).den:Nat):Int):Rat).num.natAbs:Nat):Int):Rat)=((((e.ev β).den:Nat):Int):Rat)↔_
 rw [FU,← Rat.intCast_mul,← Int.natCast_mul]
 constructor
 ·intro h1
  have h2:((isq (e.ev β).den*isq (e.ev β).den:Nat):Int)=((e.ev β).den:Int):=by exact_mod_cast h1
  omega
 ·intro h1
  rw [h1]
theorem Af {r:Rat} (h:sgQ r=1):¬ r.num<0:=fun h0=>by rw [mg,if_pos h0] at h;cases h
theorem JX (ok:h.Ok β) {e:RE} (h0:¬ (e.ev β).num<0) (hh:yN h e=true):isq (e.ev β).num.natAbs*isq (e.ev β).num.natAbs=(e.ev β).num.natAbs∧isq (e.ev β).den*isq (e.ev β).den=(e.ev β).den:=by
 unfold yN at hh
 rw [Bool.and_eq_true] at hh
 exact ⟨(wF h0).1 (kD ok hh.1),Aj.1 (kD ok hh.2)⟩
theorem KQ (ok:h.Ok β) {x y:RE} (hh:h.ne.any (fun z=>z.1.beq x && z.2.beq y)=true):x.ev β≠y.ev β:=by
 obtain ⟨z,hz,h1⟩:=List.any_eq_true.1 hh
 simp only [Bool.and_eq_true] at h1
 rw [← RE.beq_eq h1.1,← RE.beq_eq h1.2]
 exact ok.2.1 z hz
theorem KR (ok:h.Ok β) {e:RE} (h0:¬ (e.ev β).num<0) (hh:zI h e=true):¬(isq (e.ev β).num.natAbs*isq (e.ev β).num.natAbs=(e.ev β).num.natAbs∧isq (e.ev β).den*isq (e.ev β).den=(e.ev β).den):=by
 unfold zI at hh
 rw [Bool.or_eq_true] at hh
 rintro ⟨h1,h2⟩
 rcases hh with hh | hh
 ·exact KQ ok hh ((wF h0).2 h1)
 ·exact KQ ok hh (Aj.2 h2)
theorem Jp {r:Rat} {k:Nat} (hf:Fits k r):Fits k (mkRat (isq r.num.natAbs) (isq r.den)):=by
 obtain ⟨e1,-,e3⟩:=Z4.qH (isq r.num.natAbs) (isq r.den) _ (Ep r.den_nz) rfl
 have a1:=vG hf.1
 have a2:=vG hf.2
 exact ⟨by rw [e1];have:=Nat.div_le_self ((isq r.num.natAbs:Nat):Int).natAbs (Nat.gcd ((isq r.num.natAbs:Nat):Int).natAbs (isq r.den));omega,by rw [e3];have:=Nat.div_le_self (isq r.den) (Nat.gcd ((isq r.num.natAbs:Nat):Int).natAbs (isq r.den));omega⟩
theorem Qz (ok:h.Ok β):(CJ β h).Ok Tryz.prog (SQ β) EV:=by
 refine Con.ok0 rfl ?_
 intro db b args res new ha ρ W hf hE
 simp only [CJ] at ha
 split at ha
 ·split at ha
  ·rename_i e k hx
   split at ha
   ·rename_i hh
    simp only [Bool.and_eq_true,decide_eq_true_eq] at hh
    obtain ⟨⟨h1,h2⟩,-⟩:=gG hx hf
    have h0:=Af (uq ok hh.2)
    have hc:=TA _ _ k W h1 h0 (by simp only [K0] at hh;omega) h2
    split at ha
    ·rename_i hs
     cases ha
     have:=hc.1 (JX ok h0 hs)
     rw [← qI] at this
     exact H8 this (by rw [qI];exact Jp h2)
    ·split at ha
     ·rename_i hs
      cases ha
      exact H8 (e:=.c 0) (hc.2 (KR ok h0 hs)) (fits_int (n:=0) (by decide) (by decide))
     ·cases ha
   ·cases ha
  ·cases ha
 ·cases ha
end
end Rx
namespace Rx
open Go.RowKit
def wl0 (fn:Func):Code:=match fn.body with | some (.seq a _)=>a | _=>.skip
def wl1 (fn:Func):Code:=match fn.body with | some (.seq _ (.seq a _))=>a | _=>.skip
def wlB (fn:Func):Code:=match fn.body with | some (.seq _ (.seq _ (.seq (.block _ (.loop b)) _)))=>b | _=>.skip
def wlR (fn:Func):Code:=match fn.body with | some (.seq _ (.seq _ (.seq _ r)))=>r | _=>.skip
abbrev zT:TypeId:=35
abbrev zrP:Pat:=[none,some (.ptr 0 0),some (.ptr 1 0),some (.ptr 2 0),some (.ptr 3 0),none,none,none,none,none,none,none,none,none,none,none,none,none,none,none,none,none,none,none,none,none,none,none,none,none,none,none,none,none]
abbrev zrB:List (Nat×TypeId×List Cell):=[(0,zT,zC 4),(1,zT,[.bl false,.nils]),(2,zT,zC 5),(3,zT,zC 6)]
abbrev zK:Nat:=64
abbrev zrS:List Fd:=[.z 4 (.v 0) zK,.z 5 (.v 1) zK,.z 6 (.v 2) zK]
abbrev qU:RE:=.flo (.div (.add (.v 1) (.v 2)) (.c 2))
def zrH (c o:Int):Hint:={ cm:=[(.sub (.v 2) (.v 1),.c 1,c),(.mul qU qU,.v 0,o)] }
def zrC (β:Nat→Rat) (h:Hint):List (Con (SR β)):=Dx β :: Dt β :: cr β h
def abe:Nat→Option Nat
 | 0=>some 1 | 1=>some 65 | 2=>some 385 | 3=>some 449 | 4=>some 0 | 6=>some 321 | _=>none
def zrm (x:Bool):Nat→Option Nat
 | 0=>some 0 | 1=>some 1 | 2=>some 2 | 3=>some 3 | 4=>some 4 | 5=>some (if x then 647 else 5) | 6=>some (if x then 6 else 647) | _=>none
def pI:Fd→Fd→Bool
 | .z s e k,.z s' e' k'=>s == s' && e.beq e' && k == k'
 | _,_=>false
theorem Jf {a b:Fd} (h:pI a b=true):a=b:=by
 unfold pI at h
 split at h
 ·simp only [Bool.and_eq_true,beq_iff_eq] at h
  rw [h.1.1,RE.beq_eq h.1.2,h.2]
 ·cases h
abbrev abf:List Fd:=[.z 321 (.add (.v 0) (.c 1)) 65,.z 0 (.v 0) 64]
def zrn (x:Bool):List Fd:=[.z 647 qU 65,.z 4 (.v 0) 64,if x then .z 6 (.v 2) 64 else .z 5 (.v 1) 64]
theorem Gz (β:Nat→Rat):tV (SR β) [.e (.a (zC 0))] [.z 0 (.v 0) zK] 1=true∧okR (S:=SR β) pI zrP zrB abe abf (Ac Tryz.prog (SR β) (HR β) (zrC β {}) [wl0 Tryz.f164,wl1 Tryz.f164] ⟨[.e (.a (zC 0))] ++ List.replicate ((Tryz.f164).ntmps - [SV.e (.a (zC 0))].length) .und,[],[.z 0 (.v 0) zK],1⟩)=true∧wfB (SR β) zrP zrB zrS 7=true:=⟨by kernel_rfl,by kernel_rfl,by kernel_rfl⟩
theorem abb (β:Nat→Rat) (u:Nat→Value):okR (S:=SR β) pI zrP zrB (zrm true) (zrn true) (exec Tryz.prog (SR β) (HR β) (zrC β (zrH 1 (-1))) 1 (wlB Tryz.f164) ⟨fD zrP u 0,zrB,zrS,7⟩)=true∧okR (S:=SR β) pI zrP zrB (zrm true) (zrn true) (exec Tryz.prog (SR β) (HR β) (zrC β (zrH 1 0)) 1 (wlB Tryz.f164) ⟨fD zrP u 0,zrB,zrS,7⟩)=true ∧
  okR (S:=SR β) pI zrP zrB (zrm false) (zrn false) (exec Tryz.prog (SR β) (HR β) (zrC β (zrH 1 1)) 1 (wlB Tryz.f164) ⟨fD zrP u 0,zrB,zrS,7⟩)=true:=⟨by kernel_rfl,by kernel_rfl,by kernel_rfl⟩
theorem ab8 (β:Nat→Rat) (u:Nat→Value) (o:Int):yT (.v 1) (DV Tryz.prog (SR β) (HR β) (zrC β (zrH 0 o)) (wlB Tryz.f164) (wlR Tryz.f164) Tryz.f164 ⟨fD zrP u 0,zrB,zrS,7⟩)=true:=by kernel_rfl
theorem wK {β:Nat→Rat} {h:Hint} (ok:h.Ok β):∀ c∈zrC β h,c.Ok Tryz.prog (SR β) EV:=by
 unfold zrC
 simp only [List.forall_mem_cons]
 exact ⟨QZ,QW,iW ok⟩
abbrev gy (a l h:Nat):Nat→Rat:=bet [((a:Int):Rat),((l:Int):Rat),((h:Int):Rat)]
theorem Gx (a l h:Nat):qU.ev (gy a l h)=((((l+h) / 2:Nat):Int):Rat):=by
 show ((flo ((((l:Int):Rat)+((h:Int):Rat)) / (((2:Nat):Int):Rat)):Int):Rat)=_
 rw [← Rat.intCast_add,D9 _ _ (by omega)]
 rfl
theorem Oq {a l h:Nat} {c o:Int} (hc:aN (((h:Int) - (l:Int):Int):Rat) ((1:Int):Rat)=c) (ho:aN (((((l+h) / 2*((l+h) / 2):Nat):Int):Rat)) ((a:Int):Rat)=o):(zrH c o).Ok (gy a l h):=
 ⟨fun p h=>(by cases h),fun p h=>(by cases h),fun p h=>(by cases h),fun p h=>(by cases h),fun p hp=>by
  rcases List.mem_cons.1 hp with rfl | hp
  ·rw [Rat.intCast_sub] at hc
   exact hc
  ·obtain rfl:=List.mem_singleton.1 hp
   show aN (qU.ev (gy a l h)*qU.ev (gy a l h)) _=o
   rw [Gx,← Rat.intCast_mul,← Int.natCast_mul]
   exact ho⟩
theorem yS {W:World} {v:Value} {r r':Rat} {k k' n:Nat} (h:IsY W v r k) (hr:r=((n:Int):Rat)) (hr':r' = ((n:Int):Rat)) (hn:n<B64 ^ k'):IsY W v r' k':=by
 obtain ⟨z,h1,h2,-⟩:=h
 rw [hr] at h2
 have:z=(n:Int):=by exact_mod_cast h2
 exact ⟨z,h1,by rw [hr',this],by omega⟩
theorem ab9 {a l h:Nat} (ha:a+1<B64 ^ zK) (hl:l≤a) (hh:h≤a+1) (x:Bool) {ρ:Env} {W:World} (hf:∀ f∈zrn x,(SR (gy a l h)).on ρ f W):∀ f∈zrS,(SR (if x then gy a ((l+h) / 2) h else gy a l ((l+h) / 2))).on (jP (zrm x) ρ) f W:=by
 have h1:IsY W (.agg ((zC 647).map (Cell.den ρ)).toArray) _ 65:=hf (.z 647 qU 65) (by simp [zrn])
 have h2:IsY W (.agg ((zC 4).map (Cell.den ρ)).toArray) _ 64:=hf (.z 4 (.v 0) 64) (by simp [zrn])
 intro f hm
 simp only [List.mem_cons,List.not_mem_nil,or_false] at hm
 cases x
 ·have h3:IsY W (.agg ((zC 5).map (Cell.den ρ)).toArray) _ 64:=hf (.z 5 (.v 1) 64) (by simp [zrn])
  rcases hm with rfl | rfl | rfl
  ·exact h2
  ·exact h3
  ·exact yS h1 (Gx a l h) rfl (by omega)
 ·have h3:IsY W (.agg ((zC 6).map (Cell.den ρ)).toArray) _ 64:=hf (.z 6 (.v 2) 64) (by simp [zrn])
  rcases hm with rfl | rfl | rfl
  ·exact h2
  ·exact yS h1 (Gx a l h) rfl (by omega)
  ·exact h3
theorem Td {P:Program} {S:Sys} {H:Tests S} {cons:List (Con S)} {B rest:Code} {fn:Func} {σ:State S} {v:SV} {fsE:List S.F} (h:DV P S H cons B rest fn σ=some (v,fsE)) :
  ∃ σ1 σ2 l,exec P S H cons 1 B σ=some (.exit 0,σ1)∧exec P S H cons 1 rest σ1=some (.ret,σ2)∧kK P S σ2 fn.results.toList=some l∧kJ l=v∧σ2.fs=fsE:=by
 unfold DV at h
 split at h
 ·rename_i σ1 hx1
  split at h
  ·rename_i σ2 hx2
   split at h
   ·rename_i l hl
    simp only [Option.some.injEq,Prod.mk.injEq] at h
    exact ⟨σ1,σ2,l,hx1,hx2,hl,h.1,h.2⟩
   ·cases h
  ·cases h
 ·cases h
theorem Ot {a:Nat} (ha:a+1<B64 ^ zK) {w:World} (hE:EV w) (l h:Nat) (hl:l*l≤a) (hh:a<h*h) (h1:h=l+1) (n:Nat) (u:Nat→Value) (ρ:Env) (act:Act) (W:World) (hs:State.Says (S:=SR (gy a l h)) ⟨fD zrP u 0,zrB,zrS,7⟩ w ρ act W) :
  Code.rounds Tryz.prog (wlB Tryz.f164) (Exit.inBlock 0 (Exit.then ((wlR Tryz.f164).wp Tryz.prog (bodyPost Tryz.prog Tryz.f164 (Z4.dB w (isq a)))) (bodyPost Tryz.prog Tryz.f164 (Z4.dB w (isq a))))) (n+1) act W:=by
 have _:=ha
 have hwf:=(Gz (gy a l h)).2.2
 have hok:=Oq (a:=a) (l:=l) (h:=h) (c:=0) (by rw [mX,if_neg (by omega),if_pos (by omega)]) rfl
 rw [rounds_succ]
 obtain ⟨cs,fsE,k,he,hy⟩:=J3 (ab8 (gy a l h) u _)
 obtain ⟨σ1,σ2,lr,hx1,hx2,hlr,hv,hfs⟩:=Td he
 obtain ⟨wf1,-,go1⟩:=rY (w0:=w) (Nat.zero_le _) mixed (wK hok) (dU hE) (wlB Tryz.f164) _ _ _ hx1 (Oa hwf u)
 obtain ⟨-,-,go2⟩:=rY (w0:=w) (Nat.zero_le _) mixed (wK hok) (dU hE) (wlR Tryz.f164) _ _ _ hx2 wf1
 refine go1 ρ act W _ hs fun ρ1 a1 W1 _ s1=>?_
 show (wlR Tryz.f164).wp Tryz.prog (bodyPost Tryz.prog Tryz.f164 (Z4.dB w (isq a))) a1 W1
 refine go2 ρ1 a1 W1 _ s1 fun ρ2 a2 W2 _ s2=>?_
 have hr:=LY s2 hlr
 rw [hv] at hr
 refine bodyPost_ret hr s2.df ⟨_,rfl,lM (iV hy (by rw [← hfs];exact s2.fc)) ?_,s2.bel⟩
 show ((l:Int):Rat)=((isq a:Nat):Int)
 rw [J4 hl (by rw [← h1];exact hh)]
theorem abd {a:Nat} (ha:a+1<B64 ^ zK) {w:World} (hE:EV w):∀ (n l h:Nat),l*l≤a→a<h*h→h≤a+1→h - l≤n+1→∀ u ρ act W,State.Says (S:=SR (gy a l h)) ⟨fD zrP u 0,zrB,zrS,7⟩ w ρ act W →
  Code.rounds Tryz.prog (wlB Tryz.f164) (Exit.inBlock 0 (Exit.then ((wlR Tryz.f164).wp Tryz.prog (bodyPost Tryz.prog Tryz.f164 (Z4.dB w (isq a)))) (bodyPost Tryz.prog Tryz.f164 (Z4.dB w (isq a))))) (n+1) act W:=by
 intro n
 induction n with
 | zero =>
  intro l h hl hh hle hn u ρ act W hs
  have hlt:l<h:=by
   rcases Nat.lt_or_ge l h with h0 | h0
   ·exact h0
   ·have:=Nat.mul_le_mul h0 h0;omega
  exact Ot ha hE l h hl hh (by omega) 0 u ρ act W hs
 | succ n ih =>
  intro l h hl hh hle hn u ρ act W hs
  have hlt:l<h:=by
   rcases Nat.lt_or_ge l h with h0 | h0
   ·exact h0
   ·have:=Nat.mul_le_mul h0 h0;omega
  have hla:l≤a:=by
   rcases Nat.eq_zero_or_pos l with h0 | h0
   ·omega
   ·exact Nat.le_trans (Nat.le_mul_of_pos_right _ h0) hl
  by_cases h1:h=l+1
  ·exact Ot ha hE l h hl hh h1 (n+1) u ρ act W hs
  ·have hwf:=(Gz (gy a l h)).2.2
   have hc:aN (((h:Int) - (l:Int):Int):Rat) ((1:Int):Rat)=1:=by rw [mX,if_neg (by omega),if_neg (by omega)]
   have go:∀ (o:Int) (x:Bool),aN (((((l+h) / 2*((l+h) / 2):Nat):Int):Rat)) ((a:Int):Rat)=o→(if x then (l+h) / 2*((l+h) / 2)≤a else a<(l+h) / 2*((l+h) / 2)) →
     okR (S:=SR (gy a l h)) pI zrP zrB (zrm x) (zrn x) (exec Tryz.prog (SR (gy a l h)) (HR (gy a l h)) (zrC (gy a l h) (zrH 1 o)) 1 (wlB Tryz.f164) ⟨fD zrP u 0,zrB,zrS,7⟩)=true →
     Code.rounds Tryz.prog (wlB Tryz.f164) (Exit.inBlock 0 (Exit.then ((wlR Tryz.f164).wp Tryz.prog (bodyPost Tryz.prog Tryz.f164 (Z4.dB w (isq a)))) (bodyPost Tryz.prog Tryz.f164 (Z4.dB w (isq a))))) (n+1+1) act W:=fun o x ho hx hr=>by
    rw [rounds_succ]
    obtain ⟨σ1,hx1,hp,hb,hnd⟩:=KT (fun _ _=>Jf) hr
    obtain ⟨-,-,gg⟩:=rY (w0:=w) (Nat.zero_le _) mixed (wK (Oq hc ho)) (dU hE) (wlB Tryz.f164) _ _ _ hx1 (Oa hwf u)
    refine gg ρ act W _ hs fun ρ1 a1 W1 _ s1=>?_
    have hnx:=ab9 ha hla hle x fun f hf=>s1.fc f (hnd f hf)
    cases x
    ·have hx':a<(l+h) / 2*((l+h) / 2):=hx
     exact ih l ((l+h) / 2) hl hx' (by omega) (by omega) _ _ _ _ (FP hp hb s1 hnx)
    ·have hx':(l+h) / 2*((l+h) / 2)≤a:=hx
     exact ih ((l+h) / 2) h hx' hh hle (by omega) _ _ _ _ (FP hp hb s1 hnx)
   have r:=abb (gy a l h) u
   rcases Nat.lt_trichotomy ((l+h) / 2*((l+h) / 2)) a with h2 | h2 | h2
   ·exact go (-1) true (by rw [mX,if_pos (by omega)]) (Nat.le_of_lt h2) r.1
   ·exact go 0 true (by rw [mX,if_neg (by omega),if_pos (by omega)]) (Nat.le_of_eq h2) r.2.1
   ·exact go 1 false (by rw [mX,if_neg (by omega),if_neg (by omega)]) h2 r.2.2
end Rx
namespace Rx
open Go.RowKit
section
variable {P:Program} {S:Sys}
theorem ZX {H:Tests S} {cons:List (Con S)} {c0 c1:Code} {σ σ':State S} (h:Ac P S H cons [c0,c1] σ=some (.normal,σ')):∃ σ1,exec P S H cons 1 c0 σ=some (.normal,σ1)∧exec P S H cons 1 c1 σ1=some (.normal,σ'):=by
 simp only [Ac] at h
 split at h
 ·rename_i σ1 h1
  split at h
  ·rename_i σ2 h2
   cases h
   exact ⟨σ1,h1,h2⟩
  ·cases h
 ·cases h
end
theorem abg {a:Nat} (ha:a+1<B64 ^ zK) {v:Value} {w:World} (hv:Z4.IsZ w v (a:Int)) (hE:EV w):Calls Tryz.prog 164 #[v] w (Z4.dB w (isq a)):=by
 obtain ⟨p,l,c,xs,rfl,hx⟩:=hv
 have hs:=Gz (gy a 0 (a+1))
 obtain ⟨σ,h1,hp,hb,hn⟩:=KT (fun _ _=>Jf) hs.2.1
 obtain ⟨σ1,hx0,hx1⟩:=ZX h1
 let ρ:Env:=ev [⟨decide ((a:Int)<0),0,p,l,c,.empty,0,default⟩]
 have hf:∀ f∈[Fd.z 0 (.v 0) zK],(SR (gy a 0 (a+1))).on ρ f w:=fun f hf=>by
  obtain rfl:=List.mem_singleton.1 hf
  exact ⟨a,⟨p,l,c,xs,rfl,hx⟩,rfl,by omega⟩
 obtain ⟨wf0,-,go0⟩:=rY (w0:=w) (Nat.zero_le _) mixed (wK (fQ _)) (dU hE) (wl0 Tryz.f164) _ _ _ hx0 (aaT hs.1)
 obtain ⟨-,-,go1⟩:=rY (w0:=w) (Nat.zero_le _) mixed (wK (fQ _)) (dU hE) (wl1 Tryz.f164) _ _ _ hx1 wf0
 have hc:(Tryz.f164).body=some ((wl0 Tryz.f164).seq ((wl1 Tryz.f164).seq ((Code.block 0 (.loop (wlB Tryz.f164))).seq (wlR Tryz.f164)))):=by kernel_rfl
 refine calls_of_wp Tryz.func164 hc (wp_seq (go0 ρ _ w _ (ZU (args:=[.e (.a (zC 0))]) hf) fun ρ1 a1 W1 _ s1=>wp_seq (go1 ρ1 a1 W1 _ s1 fun ρ2 a2 W2 _ s2=>wp_seq (wp_block (wp_loop_rounds (a+1) ?_)))))
 refine abd ha hE a 0 (a+1) (by omega) (Nat.lt_of_lt_of_le (Nat.lt_succ_self a) (Nat.le_mul_of_pos_right _ (by omega))) (Nat.le_refl _) (by omega) _ _ _ _ (FP hp hb s2 fun f hm=>?_)
 have h2:IsY W2 (.agg ((zC 321).map (Cell.den ρ2)).toArray) _ 65:=s2.fc _ (hn _ (.head _))
 have h3:IsY W2 (.agg ((zC 0).map (Cell.den ρ2)).toArray) _ 64:=s2.fc _ (hn _ (.tail _ (.head _)))
 rcases List.mem_cons.1 hm with rfl | hm
 ·exact h3
 rcases List.mem_cons.1 hm with rfl | hm
 ·refine yS (n:=0) (lK (k:=0) (r:=0) ⟨[],Z4.IsL.nil 0 W2,Z4.Dig.nil,fun h=>absurd rfl h,rfl,by simp [Z4.val]⟩) rfl rfl ?_
  exact Nat.lt_of_le_of_lt (Nat.zero_le _) ha
 ·obtain rfl:=List.mem_singleton.1 hm
  refine yS (n:=a+1) h2 ?_ rfl ha
  show ((a:Int):Rat)+((1:Int):Rat)=_
  rw [← Rat.intCast_add];rfl
section
variable (β:Nat→Rat) (h:Hint)
def nnB (h:Hint):RE→Bool
 | .den _=>true
 | e=>decide (sgB h e=some 1)
def Dw:Con (SR β) where
 fn:=164
 app:=fun db b args=>match args with
  | [.e (.a x)]=>match asY db x with
   | some (e,k)=>if decide (k≤60) && nnB h e then some (.e (.a [.bl false,.os b]),[.l b (.rt e) k]) else none
   | none=>none
  | _=>none
end
section
variable {β:Nat→Rat} {h:Hint} {f:FuncId} {vals:Array Value} {W:World} {ρ:Env} {b:Nat}
theorem XT (ok:h.Ok β) {e:RE} (hh:nnB h e=true):¬ (e.ev β).num<0:=by
 unfold nnB at hh
 split at hh
 ·rename_i e
  show ¬ ((((e.ev β).den:Nat):Int):Rat).num<0
  rw [Rat.num_intCast];omega
 ·exact Af (uq ok (of_decide_eq_true hh))
theorem QY (ok:h.Ok β):(Dw β h).Ok Tryz.prog (SR β) EV:=by
 refine Con.ok0 rfl ?_
 intro db b args res new ha ρ W hf hE
 simp only [Dw] at ha
 split at ha
 ·split at ha
  ·rename_i e k hx
   split at ha
   ·rename_i hh
    simp only [Bool.and_eq_true,decide_eq_true_eq] at hh
    cases ha
    obtain ⟨z,h1,h2,h3⟩:=iV hx hf
    have h0:=XT ok hh.2
    rw [← h2,Rat.num_intCast] at h0
    obtain ⟨m,rfl⟩:∃ m:Nat,z=(m:Int):=⟨z.toNat,by omega⟩
    rw [Int.natAbs_natCast] at h3
    have a1:B64 ^ k≤B64 ^ 60:=Nat.pow_le_pow_right (show 0<B64 by decide) hh.1
    have a2:B64 ^ 60+1<B64 ^ zK:=by decide
    have hc:=abg (a:=m) (by omega) h1 hE
    refine xw (e:=.rt e) hc (by omega) ?_ (by rw [Int.natAbs_natCast];exact vG h3)
    show _=(((isq (e.ev β).num.natAbs:Nat):Int):Rat)
    rw [← h2,Rat.num_intCast,Int.natAbs_natCast]
   ·cases ha
  ·cases ha
 ·cases ha
def wW (w:World) (r:Rat) (x:Bool) (e:Ending) (w':World):Prop:=∃ v,e=.returned (.tuple #[v,.bool x])∧Z4.IsR w' v r∧Below w.heap.size w w'
def Ej (e:RE) (x:Bool):Option (SV×List Fd)→Bool
 | some (.t [.a cs,.s (.bl y)],fs)=>match rC fs cs with
  | some e'=>e'.beq e && x == y
  | none=>false
 | _=>false
theorem V3 {e:RE} {x:Bool} {o:Option (SV×List Fd)} (h:Ej e x o=true):∃ cs fs,o=some (.t [.a cs,.s (.bl x)],fs)∧rC fs cs=some e:=by
 unfold Ej at h
 split at h
 ·split at h
  ·rename_i cs y fs _ e' ha
   simp only [Bool.and_eq_true,beq_iff_eq] at h
   exact ⟨cs,fs,by rw [h.2],by rw [ha,RE.beq_eq h.1]⟩
  ·cases h
 ·cases h
def cs2 (β:Nat→Rat) (h:Hint):List (Con (SR β)):=Dw β h :: cr β h
theorem uV (ok:h.Ok β):∀ c∈cs2 β h,c.Ok Tryz.prog (SR β) EV:=by
 unfold cs2
 simp only [List.forall_mem_cons]
 exact ⟨QY ok,iW ok⟩
theorem wu {cons:List (Con (SR β))} {fuel:Nat} {args:List SV} {fs:List Fd} {n0:Nat} {e:RE} {x:Bool} {r:Rat} (hc:∀ c∈cons,c.Ok Tryz.prog (SR β) EV) (hr:Ej e x (aV Tryz.prog (SR β) (HR β) cons fuel f args fs n0)=true) (he:e.ev β=r) (hE:EV W) (hf:∀ g∈fs,Fd.on β ρ g W):Calls Tryz.prog f (args.map (SV.den ρ)).toArray W (wW W r x):=by
 obtain ⟨cs,fs',heq,ha⟩:=V3 hr
 refine (fU mixed hc heq (dU hE) hf).mono fun y W' ⟨ρ',_,hx,hb,hfs⟩=>?_
 have:=Ib ha hfs
 rw [he] at this
 exact ⟨_,hx,this,hb⟩
abbrev sN:RE:=sq2 (.num (.v 0))
abbrev sD:RE:=sq2 (.den (.v 0))
theorem Eb {β:Nat→Rat} {eq:List (RE×RE)} {cm:List (RE×RE×Int)} (h1:∀ p∈eq,p.1.ev β=p.2.ev β) (h2:∀ p∈cm,aN (p.1.ev β) (p.2.1.ev β)=p.2.2) (h3:sgQ ((RE.num (.v 0)).ev β)=1):Hint.Ok β { eq:=eq,cm:=cm,nz:=[.rt (.den (.v 0))],sg:=[(.num (.v 0),1)] }:=
 ⟨h1,fun p h=>(by cases h),fun p hp=>(by
  obtain rfl:=List.mem_singleton.1 hp
  show (((isq ((((β 0).den:Nat):Int):Rat).num.natAbs:Nat):Int):Rat)≠0
  rw [FU]
  intro h0
  have:((isq (β 0).den:Nat):Int)=0:=by exact_mod_cast h0
  exact Ep (β 0).den_nz (by omega)),fun p hp=>(by obtain rfl:=List.mem_singleton.1 hp;exact h3),h2⟩
theorem aa1 (r:Rat):sgQ ((r.num:Int):Rat)=sgQ r:=by rw [mg,mg,Rat.num_intCast]
theorem aat {r:Rat} {v:Value} (h1:Z4.IsR W v r) (f1:Fits 60 r) (h0:sgQ r=1) (hE:EV W) :
  ((isq r.num.natAbs*isq r.num.natAbs=r.num.natAbs∧isq r.den*isq r.den=r.den)→Calls Tryz.prog 138 #[v] W (wW W (mkRat (isq r.num.natAbs) (isq r.den)) true)) ∧
  (¬(isq r.num.natAbs*isq r.num.natAbs=r.num.natAbs∧isq r.den*isq r.den=r.den)→Calls Tryz.prog 138 #[v] W (wW W (mkRat (isq r.num.natAbs) (isq r.den)) false)):=by
 have hp:¬ ((RE.v 0).ev (bet [r])).num<0:=Af h0
 have hs:sgQ ((RE.num (.v 0)).ev (bet [r]))=1:=(aa1 r).trans h0
 have hev:(rtE (.v 0)).ev (bet [r])=mkRat (isq r.num.natAbs) (isq r.den):=qI (.v 0)
 obtain ⟨c,d,rfl⟩:=lZ h1
 have hg:∀ g∈[Fd.r 0 (.v 0) 60],Fd.on (bet [r]) (ev [c,d]) g W:=fun g hg=>by
  obtain rfl:=List.mem_singleton.1 hg
  exact ⟨h1,f1⟩
 constructor
 ·rintro ⟨g1,g2⟩
  have ok:=Eb (β:=bet [r]) (eq:=[(sN,.num (.v 0)),(sD,.den (.v 0))]) (cm:=[]) (fun p hq=>by
   rcases List.mem_cons.1 hq with rfl | hq
   ·exact (wF hp).2 g1
   ·obtain rfl:=List.mem_singleton.1 hq
    exact Aj.2 g2) (fun p hq=>by cases hq) hs
  exact wu (ρ:=ev [c,d]) (args:=[rr 0]) (fs:=[.r 0 (.v 0) 60]) (n0:=2) (fuel:=1) (uV ok) (by kernel_rfl) hev hE hg
 ·intro hn
  by_cases g1:isq r.num.natAbs*isq r.num.natAbs=r.num.natAbs
  ·have g2:sD.ev (bet [r])≠(RE.den (.v 0)).ev (bet [r]):=fun h=>hn ⟨g1,Aj.1 h⟩
   have go:∀ o,aN (sD.ev (bet [r])) ((RE.den (.v 0)).ev (bet [r]))=o→Hint.Ok (bet [r]) { eq:=[(sN,.num (.v 0))],cm:=[(sD,.den (.v 0),o)],nz:=[.rt (.den (.v 0))],sg:=[(.num (.v 0),1)] }:=fun o ho=>Eb (fun p hq=>by
    obtain rfl:=List.mem_singleton.1 hq
    exact (wF hp).2 g1) (fun p hq=>by obtain rfl:=List.mem_singleton.1 hq;exact ho) hs
   rcases Iz g2 with ho | ho
   ·exact wu (ρ:=ev [c,d]) (args:=[rr 0]) (fs:=[.r 0 (.v 0) 60]) (n0:=2) (fuel:=1) (uV (go _ ho)) (by kernel_rfl) hev hE hg
   ·exact wu (ρ:=ev [c,d]) (args:=[rr 0]) (fs:=[.r 0 (.v 0) 60]) (n0:=2) (fuel:=1) (uV (go _ ho)) (by kernel_rfl) hev hE hg
  ·have g2:sN.ev (bet [r])≠(RE.num (.v 0)).ev (bet [r]):=fun h=>g1 ((wF hp).1 h)
   have go:∀ o,aN (sN.ev (bet [r])) ((RE.num (.v 0)).ev (bet [r]))=o→Hint.Ok (bet [r]) { cm:=[(sN,.num (.v 0),o)],nz:=[.rt (.den (.v 0))],sg:=[(.num (.v 0),1)] }:=fun o ho=>Eb (fun p hq=>by cases hq) (fun p hq=>by obtain rfl:=List.mem_singleton.1 hq;exact ho) hs
   rcases Iz g2 with ho | ho
   ·exact wu (ρ:=ev [c,d]) (args:=[rr 0]) (fs:=[.r 0 (.v 0) 60]) (n0:=2) (fuel:=1) (uV (go _ ho)) (by kernel_rfl) hev hE hg
   ·exact wu (ρ:=ev [c,d]) (args:=[rr 0]) (fs:=[.r 0 (.v 0) 60]) (n0:=2) (fuel:=1) (uV (go _ ho)) (by kernel_rfl) hev hE hg
end
end Rx
namespace Rx
open Go.RowKit
def sK:List Fc→Nat→Option (RE×Nat)
 | [],_=>none
 | .z s e k :: r,n=>if s=n then some (e,k) else sK r n
 | _ :: r,n=>sK r n
theorem pW {n:Nat} {e:RE} {k:Nat}:∀ {db:List Fc},sK db n=some (e,k)→.z n e k∈db
 | [],h=>by simp [sK] at h
 | f :: r,h=>by
  cases f with
  | z s e' k' =>
   simp only [sK] at h
   split at h
   ·rename_i hs;cases h;subst hs;simp
   ·exact List.mem_cons_of_mem _ (pW h)
  | q _ _ _=>exact List.mem_cons_of_mem _ (pW h)
  | r _ _ _=>exact List.mem_cons_of_mem _ (pW h)
  | x _ _=>exact List.mem_cons_of_mem _ (pW h)
  | n _ _=>exact List.mem_cons_of_mem _ (pW h)
  | i _ _=>exact List.mem_cons_of_mem _ (pW h)
def uO (db:List Fc):List Cell→Option (RE×Nat)
 | [.ob a,.os c]=>if a=c then (match sK db a with
  | some x=>some x
  | none=>match pV db a with
   | some (e,k)=>some (.num e,k)
   | none=>none) else none
 | _=>none
section
variable {β:Nat→Rat} {h:Hint} {f:FuncId} {vals:Array Value} {W:World} {ρ:Env} {b:Nat} {db:List Fc}
theorem BK {cs:List Cell} {e:RE} {k:Nat} (h:uO db cs=some (e,k)) (hf:∀ f∈db,(SQ β).on ρ f W):∃ z:Int,Z4.IsZ W (.agg (cs.map (Cell.den ρ)).toArray) z∧(z:Rat)=e.ev β∧z.natAbs<B64 ^ k:=by
 unfold uO at h
 split at h
 ·rename_i a c
  split at h
  ·rename_i hac
   subst hac
   split at h
   ·rename_i x hx
    cases h
    exact hf _ (pW hx)
   ·split at h
    ·rename_i e' k' hx
     cases h
     obtain ⟨h1,h2⟩:=(show Fc.on β ρ (.r a e' k) W from hf _ (nK hx))
     exact ⟨(e'.ev β).num,Z4.IsR.num h1,rfl,h2.1⟩
    ·cases h
  ·cases h
 ·cases h
theorem Ia {z:Int} {e:RE} {k:Nat} (hc:Calls Tryz.prog f vals W (Z4.dB W z)) (hz:(z:Rat)=e.ev β) (hk:z.natAbs<B64 ^ k):Calls Tryz.prog f vals W (Ans β ρ b W (.e (.a (zC b))) [.z b e k]):=by
 refine hc.mono fun _ W' ⟨v,he,hv,hb⟩=>?_
 obtain ⟨p,l,c,xs,rfl,hx⟩:=hv
 have h1:(zC b).map (Cell.den (aF ρ b [⟨decide (z<0),0,p,l,c,.empty,0,default⟩]))=[.bool (decide (z<0)),.slice p l c]:=by simp [zC,Cell.den,aF]
 refine ⟨_,fV (b:=b) (L:=[⟨decide (z<0),0,p,l,c,.empty,0,default⟩]) (by simp [M]),?_,hb,fun g hg=>?_⟩
 ·rw [he];simp only [SV.den,El.den,h1]
 ·rw [List.mem_singleton] at hg
  subst hg
  exact ⟨z,by rw [h1];exact ⟨p,l,c,xs,rfl,hx⟩,hz,hk⟩
theorem H9 {e:RE} {k:Nat} {x:Bool} (hc:Calls Tryz.prog f vals W (wW W (e.ev β) x)) (hk:Fits k (e.ev β)):Calls Tryz.prog f vals W (Ans β ρ b W (.t [.a (aX b),.s (.bl x)]) [.r b e k]):=by
 refine hc.mono fun _ W' ⟨v,he,hv,hb⟩=>?_
 obtain ⟨c,d,rfl⟩:=lZ hv
 have h1:(aX b).map (Cell.den (aF ρ b [c,d]))=[.bool c.b,.slice c.p c.l c.c,.bool false,.slice d.p d.l d.c]:=by simp [aX,Cell.den,aF]
 refine ⟨aF ρ b [c,d],fV (by simp [M]),?_,hb,fun g hg=>?_⟩
 ·rw [he];simp only [SV.den,El.den,List.map_cons,List.map_nil,h1];rfl
 ·rw [List.mem_singleton] at hg
  subst hg
  exact ⟨by rw [h1];exact hv,hk⟩
end
section
variable (β:Nat→Rat) (h:Hint)
def Dy:Con (SQ β) where
 fn:=74
 app:=fun db b args=>match args with
  | [.e (.a x)]=>match jq db x with
   | some (e,k)=>some (.e (.a (zC b)),[.z b (.den e) k])
   | none=>none
  | _=>none
def Dz:Con (SQ β) where
 fn:=73
 app:=fun db b args=>match args with
  | [.e (.a x),.e (.a y)]=>match uO db x,uO db y with
   | some (e,k),some (e',k')=>if decide (k≤K1) && decide (k'≤K1) then some (.e (.a (zC b)),[.z b (.mul e e') (k+k')]) else none
   | _,_=>none
  | _=>none
def Dp:Con (SQ β) where
 fn:=139
 app:=fun db b args=>match args with
  | [.e (.a x)]=>match uO db x with
   | some (e,k)=>if 1≤k then some (.e (.a (aX b)),[.r b e k]) else none
   | none=>none
  | _=>none
def Dk:Con (SQ β) where
 fn:=138
 app:=fun db b args=>match args with
  | [.e (.a x)]=>match jq db x with
   | some (e,k)=>if decide (k≤60) && decide (sgB h e=some 1) then
     (if yN h e then some (.t [.a (aX b),.s (.bl true)],[.r b (rtE e) k]) else
     if zI h e then some (.t [.a (aX b),.s (.bl false)],[.r b (rtE e) k]) else none) else none
   | none=>none
  | _=>none
def cw:List (Con (SQ β)):=CJ β h :: Dk β h :: Dy β :: Dz β :: Dp β :: rJ β 102 .num id :: rJ β 101 .den id :: c1 β h
end
section
variable {β:Nat→Rat} {h:Hint}
theorem aaU {z:Int} {v:Value} {W:World} {k:Nat} (h1:Z4.IsZ W v z) (hk:z.natAbs<B64 ^ k) (hE:EV W):Calls Tryz.prog 139 #[v] W (Z4.fM W (z:Rat)):=by
 obtain ⟨p,l,c,xs,rfl,hx⟩:=h1
 exact lW (β:=bet [(z:Rat)]) (ρ:=ev [⟨decide (z<0),0,p,l,c,.empty,0,default⟩]) (args:=[.e (.a (zC 0))]) (fs:=[.z 0 (.v 0) k]) (e:=.v 0) (fuel:=1) (n0:=1) (iW (fQ _)) (by kernel_rfl) rfl hE fun g hg=>by
  rw [List.mem_singleton] at hg;subst hg
  exact ⟨z,⟨p,l,c,xs,rfl,hx⟩,rfl,hk⟩
theorem Q5:(Dy β).Ok Tryz.prog (SQ β) EV:=by
 refine Con.ok0 rfl ?_
 intro db b args res new ha ρ W hf hE
 simp only [Dy] at ha
 split at ha
 ·split at ha
  ·rename_i e k hx
   cases ha
   obtain ⟨h1,h2⟩:=jW hx hf
   exact Ia (e:=.den e) (Z4.uX _ _ W h1) rfl (by simpa using h2.2)
  ·cases ha
 ·cases ha
theorem Q7:(Dz β).Ok Tryz.prog (SQ β) EV:=by
 refine Con.ok0 rfl ?_
 intro db b args res new ha ρ W hf hE
 simp only [Dz] at ha
 split at ha
 ·split at ha
  ·rename_i e k e' k' hx hy
   split at ha
   ·rename_i hk
    simp only [Bool.and_eq_true,decide_eq_true_eq] at hk
    cases ha
    obtain ⟨z,h1,h2,h3⟩:=BK hx hf
    obtain ⟨z',g1,g2,g3⟩:=BK hy hf
    have a1:=Nat.pow_le_pow_right (show 0<B64 by decide) (Nat.le_max_left k k')
    have a2:=Nat.pow_le_pow_right (show 0<B64 by decide) (Nat.le_max_right k k')
    have hB:=je (max k k')
    refine Ia (e:=.mul e e') (Z4.AB z z' _ _ W h1 g1 (5*max k k') (by simp only [K1] at hk;omega) (by omega) (by omega)) (by rw [Rat.intCast_mul,h2,g2];rfl) ?_
    rw [Int.natAbs_mul,Nat.pow_add];exact Nat.mul_lt_mul'' h3 g3
   ·cases ha
  ·cases ha
 ·cases ha
theorem QU:(Dp β).Ok Tryz.prog (SQ β) EV:=by
 refine Con.ok0 rfl ?_
 intro db b args res new ha ρ W hf hE
 simp only [Dp] at ha
 split at ha
 ·split at ha
  ·rename_i e k hx
   split at ha
   ·rename_i hk
    cases ha
    obtain ⟨z,h1,h2,h3⟩:=BK hx hf
    have hc:=aaU h1 h3 hE
    have hfit:Fits k (z:Rat):=⟨by rw [Rat.num_intCast];exact h3,by rw [Rat.den_intCast];exact Nat.one_lt_pow (by omega) (by decide)⟩
    rw [h2] at hc hfit
    exact qZ hc hfit
   ·cases ha
  ·cases ha
 ·cases ha
theorem QS (ok:h.Ok β):(Dk β h).Ok Tryz.prog (SQ β) EV:=by
 refine Con.ok0 rfl ?_
 intro db b args res new ha ρ W hf hE
 simp only [Dk] at ha
 split at ha
 ·split at ha
  ·rename_i e k hx
   split at ha
   ·rename_i hh
    simp only [Bool.and_eq_true,decide_eq_true_eq] at hh
    obtain ⟨h1,h2⟩:=jW hx hf
    have hs:=uq ok hh.2
    have h0:=Af hs
    have hc:=aat h1 (h2.mono hh.1) hs hE
    rw [← qI] at hc
    have hfit:Fits k ((rtE e).ev β):=by rw [qI];exact Jp h2
    split at ha
    ·rename_i hq
     cases ha
     exact H9 (hc.1 (JX ok h0 hq)) hfit
    ·split at ha
     ·rename_i hq
      cases ha
      exact H9 (hc.2 (KR ok h0 hq)) hfit
     ·cases ha
   ·cases ha
  ·cases ha
 ·cases ha
theorem Jo {k:Nat} {r:Rat} (h:Fits k r):Fits k (r.num:Rat)∧Fits k ((((r.den:Nat):Int):Rat)):=by
 have h1:1<B64 ^ k:=Nat.lt_of_le_of_lt r.den_pos h.2
 exact ⟨⟨by rw [Rat.num_intCast];exact h.1,by rw [Rat.den_intCast];exact h1⟩,by rw [Rat.num_intCast];simpa using h.2,by rw [Rat.den_intCast];exact h1⟩
theorem Ri (ok:h.Ok β):∀ c∈cw β h,c.Ok Tryz.prog (SQ β) EV:=by
 unfold cw
 simp only [List.forall_mem_cons]
 exact ⟨Qz ok,QS ok,Q5,Q7,QU,xK fun e k v W _ h1 h2 _=>⟨OC _ v W h1,(Jo h2).1⟩,xK fun e k v W _ h1 h2 _=>⟨GN _ v W h1,(Jo h2).2⟩,xG ok⟩
end
end Rx
end Go.Proofs.YtefbfbdijimanaaGreatDoor
