/- What the proof rests on, part 35. -/
import Derived.Test.YtcglmmbgoonjnaaGreatDoorP34
import Derived.Test.YtcglmmbgoonjnaaGreatDoorP23
import Derived.Test.YtcglmmbgoonjnaaGreatDoorP06
import Derived.Test.YtcglmmbgoonjnaaGreatDoorP33
namespace Go.Proofs.YtcglmmbgoonjnaaGreatDoor
set_option maxRecDepth 100000
set_option maxHeartbeats 80000000
namespace Z4
open Go.RowKit Go.Sort Go.Lib
theorem La (w:World):Calls Tryz.prog 125 #[.agg #[.bool false,.slice none 0 0,.bool false,.slice none 0 0]] w (dG w 1):=by
 have HN:=hid (fun (W:World)=>jg 1 (by decide) (by decide) W)
 go_enter Tryz.func125,Tryz.ntmps125
 go_wp2_with fail
 have hS0:=hid (((St.start w).alloc' (w.heap.size) (by simp) 40 [.bool false,.slice none 0 0,.bool false,.slice none 0 0]).alloc' (w.heap.size+1) (by simp) 38 [.bool false,.slice none 0 0])
 obtain ⟨W0,hW0⟩:=aK hS0
 rw [hW0] at hS0 ⊢
 clear hW0
 refine (HN.out _).mono ?_
 rintro e w1 hret
 obtain ⟨v1,rfl,hz1,hB⟩:=hret.z
 clear hret
 obtain ⟨t1,p1,l1,k1,rfl⟩:=hz1.open
 have hS1:=hid (hS0.out.call hB)
 clear hB hS0
 have hS2:=hid (hS1.out.fact (.z (.agg #[.bool t1,.slice p1 l1 k1]) 1) hz1)
 clear hS1 hz1
 obtain ⟨⟨cR0,cR1⟩,fR0,fR1⟩:=hS2.out.f2 0 (w.heap.size+1) 38 (.bool false) (.slice none 0 0) rfl
 have hS3:=hid (((hS2.out).store (b:=⟨w.heap.size+1,38,[.bool false,.slice none 0 0]⟩) 0 0 (.bool t1) rfl rfl).store (b:=⟨w.heap.size+1,38,[.bool t1,.slice none 0 0]⟩) 0 1 (.slice p1 l1 k1) rfl rfl)
 go_wp2_with fail
 clear cR0 cR1 fR0 fR1
 obtain ⟨⟨zR0,zR1⟩,-⟩:=hS3.out.f2 0 (w.heap.size+1) 38 (.bool t1) (.slice p1 l1 k1) rfl
 exact bodyPost_ret (v:=.agg #[.bool t1,.slice p1 l1 k1]) (by simp [results,Tryz.results125,go_sem,zR0,zR1]) rfl ⟨_,rfl,hS3.out.get (f:=.z (.agg #[.bool t1,.slice p1 l1 k1]) 1) 0 rfl,hS3.out.bel⟩
theorem TK (w:World):Calls Tryz.prog 121 #[.agg #[.bool false,.slice none 0 0,.bool false,.slice none 0 0]] w (dZ w [48]):=by
 have HN:=hid (fun (W:World)=>Ih false none 0 W)
 have HM:=hid (fun (W:World) (v:Value) (a:IsZ W v 1)=>show Calls Tryz.prog 172 #[v] W (dZ W [49]) by
  have h:=Bo _ v W a 1 (by decide) (by decide)
  rwa [show fH 1=[49] by unfold fH;rw [if_neg (by decide),decDigits];rfl] at h)
 have HD:=hid (fun (W:World)=>La W)
 go_enter Tryz.func121,Tryz.ntmps121
 go_wp2_with fail
 have hS0:=hid ((St.start w).alloc' (w.heap.size) (by simp) 40 [.bool false,.slice none 0 0,.bool false,.slice none 0 0])
 obtain ⟨W0,hW0⟩:=aK hS0
 rw [hW0] at hS0 ⊢
 clear hW0
 obtain ⟨⟨cR0,cR1,cR2,cR3⟩,fR0,fR1,fR2,fR3⟩:=hS0.out.f4 0 w.heap.size 40 (.bool false) (.slice none 0 0) (.bool false) (.slice none 0 0) rfl
 go_wp2_with fail
 clear cR0 cR1 cR2 cR3 fR0 fR1 fR2 fR3
 refine (HN.out _).mono ?_
 rintro e w1 ⟨rfl,hB⟩
 have hS2:=hid (hS0.out.call hB)
 clear hS0 hB
 obtain ⟨⟨cR0,cR1,cR2,cR3⟩,fR0,fR1,fR2,fR3⟩:=hS2.out.f4 0 w.heap.size 40 (.bool false) (.slice none 0 0) (.bool false) (.slice none 0 0) rfl
 go_wp2_with fail
 clear cR0 cR1 cR2 cR3 fR0 fR1 fR2 fR3
 refine (HD.out _).mono ?_
 rintro e w2 ⟨v2,rfl,hz2,hB⟩
 have hS3:=hid (hS2.out.call hB)
 clear hS2 hB
 obtain ⟨t2,p2,l2,k2,rfl⟩:=hz2.open
 have hZ:=hid hz2
 clear hz2
 go_wp2_with fail
 refine (HM.out _ _ hZ.out).mono ?_
 rintro e w3 ⟨rfl,hB⟩
 have hS4:=hid (hS3.out.call hB)
 clear hS3 hB hZ
 go_wp2
 go_ret
 exact ⟨rfl,hS4.out.bel⟩
end Z4
namespace Rx
open Go.RowKit
section
variable (β:Nat→Rat) (h:Hint)
def sZ (f:FuncId) (op:RE→RE) (side:RE→Bool):Con (SQ β) where
 fn:=f
 app:=fun db b args=>match args with
  | [.e (.a x)]=>match iV db x with
   | some (e,k)=>if decide (k≤K2) && side e then some (.e (.a (aV b)),[.r b (op e) k]) else none
   | none=>none
  | _=>none
def qG (f:FuncId) (op:RE→RE→RE) (sz:Nat→Nat→Nat) (side:RE→RE→Bool):Con (SQ β) where
 fn:=f
 app:=fun db b args=>match args with
  | [.e (.a x),.e (.a y)]=>match iV db x,iV db y with
   | some (e,k),some (e',k')=>if decide (k≤K2) && decide (k'≤K2) && side e e' then some (.e (.a (aV b)),[.r b (op e e') (sz k k')]) else none
   | _,_=>none
  | _=>none
def yt:Con (SQ β) where
 fn:=39
 app:=fun db _ args=>match args with
  | [.e (.a x),.e (.a y)]=>match iV db x,iV db y with
   | some (e,k),some (e',k')=>if decide (k≤K2) && decide (k'≤K2) then (match cmB h e e' with
     | some n=>some (.e (.s (.it .i64 n)),[])
     | none=>none) else none
   | _,_=>none
  | _=>none
def yw:Con (SQ β) where
 fn:=24
 app:=fun db _ args=>match args with
  | [.e (.a x)]=>match iV db x with
   | some (e,k)=>if k≤K2 then (match sgB h e with
     | some n=>some (.e (.s (.it .i64 n)),[])
     | none=>none) else none
   | none=>none
  | _=>none
def yu:Con (SQ β) where
 fn:=27
 app:=fun _ b args=>match args with
  | [.e (.s (.it .i64 1))]=>some (.e (.a (aV b)),[.r b (.c 1) 1])
  | [.e (.s (.it .i64 2))]=>some (.e (.a (aV b)),[.r b (.c 2) 1])
  | _=>none
def yE:Con (SQ β) where
 fn:=97
 app:=fun db b args=>match args with
  | [.e (.a x)]=>match dB db x with
   | some (e,k)=>if k≤K0 then some (.e (.s (.ot b)),[.x b e]) else none
   | none=>none
  | _=>none
def yx:Con (SQ β) where
 fn:=121
 app:=fun db b args=>match args with
  | [.e (.a x)]=>match iV db x with
   | some (e,k)=>if k≤K0 then some (.e (.s (.ot b)),[.x b e]) else none
   | none=>match su x with
    | some _=>some (.e (.s (.ot b)),[.x b (.c 0)])
    | none=>none
  | _=>none
def yK:List (Con (SQ β)):=[qG β 29 .add (fun a b=>a+b+1) (fun _ _=>true),qG β 33 .mul (fun a b=>a+b) (fun _ _=>true),qG β 25 .div (fun a b=>a+b+1) (fun _ e=>nzB h e),
 sZ β 35 .neg (fun _=>true),sZ β 37 .abs (fun _=>true),yt β h,yw β h,yu β,yE β,yx β]
def c0:List (Con (SQ β)):=yK β h ++ cq β h
end
section
variable {β:Nat→Rat} {h:Hint} {f:FuncId} {vals:Array Value} {W:World} {ρ:Env} {b:Nat}
theorem qo {e:RE} {k:Nat} (hc:Calls Tryz.prog f vals W (Z4.dw W (e.ev β))) (hk:Fits k (e.ev β)):Calls Tryz.prog f vals W (Ans β ρ b W (.e (.a (aV b))) [.r b e k]):=by
 refine hc.mono fun _ W' ⟨v,he,hv,hb⟩=>?_
 obtain ⟨c,d,rfl⟩:=jc hv
 have h1:(aV b).map (Cell.den (aC ρ b [c,d]))=[.bool c.b,.slice c.p c.l c.c,.bool false,.slice d.p d.l d.c]:=by simp [aV,Cell.den,aC]
 refine ⟨aC ρ b [c,d],dS (by simp [M]),?_,hb,fun g hg=>?_⟩
 ·rw [he];simp only [SV.den,El.den,h1]
 ·rw [List.mem_singleton] at hg
  subst hg
  exact ⟨by rw [h1];exact hv,hk⟩
theorem xk {e:RE} {l:List UInt8} (hc:Calls Tryz.prog f vals W (dZ W l)) (hl:l=fU (e.ev β)):Calls Tryz.prog f vals W (Ans β ρ b W (.e (.s (.ot b))) [.x b e]):=by
 refine hc.mono fun _ W' ⟨he,hb⟩=>?_
 refine ⟨aC ρ b [⟨false,0,none,0,0,⟨l.toArray⟩,0⟩],dS (by simp [M]),?_,hb,fun g hg=>?_⟩
 ·rw [he];simp [SV.den,El.den,Cell.den,aC]
 ·rw [List.mem_singleton] at hg
  subst hg
  show (aC ρ b _ b).t=_
  rw [← hl]
  simp [aC]
theorem DI {op:RE→RE} {side:RE→Bool} (hc:∀ e v W,side e=true→Z4.IsR W v (e.ev β)→Fits K2 (e.ev β)→EV W→Calls Tryz.prog f #[v] W (Z4.dw W ((op e).ev β))) (hs:∀ e k,Fits k (e.ev β)→Fits k ((op e).ev β)):(sZ β f op side).Ok Tryz.prog (SQ β) EV:=by
 intro db b args res new ha ρ W hf hE
 simp only [sZ] at ha
 split at ha
 ·split at ha
  ·rename_i e k hx
   split at ha
   ·rename_i hk
    simp only [Bool.and_eq_true,decide_eq_true_eq] at hk
    cases ha
    obtain ⟨h1,h2⟩:=jL hx hf
    exact qo (hc e _ W hk.2 h1 (h2.mono hk.1) hE) (hs e k h2)
   ·cases ha
  ·cases ha
 ·cases ha
theorem yh {op:RE→RE→RE} {sz:Nat→Nat→Nat} {side:RE→RE→Bool} (hc:∀ e e' v v' W,side e e' = true→Z4.IsR W v (e.ev β)→Z4.IsR W v' (e'.ev β)→Fits K2 (e.ev β)→Fits K2 (e'.ev β)→EV W→Calls Tryz.prog f #[v,v'] W (Z4.dw W ((op e e').ev β)))
  (hs:∀ e e' k k',Fits k (e.ev β)→Fits k' (e'.ev β)→Fits (sz k k') ((op e e').ev β)):(qG β f op sz side).Ok Tryz.prog (SQ β) EV:=by
 intro db b args res new ha ρ W hf hE
 simp only [qG] at ha
 split at ha
 ·split at ha
  ·rename_i e k e' k' hx hy
   split at ha
   ·rename_i hk
    simp only [Bool.and_eq_true,decide_eq_true_eq] at hk
    cases ha
    obtain ⟨h1,h2⟩:=jL hx hf
    obtain ⟨h3,h4⟩:=jL hy hf
    exact qo (hc e e' _ _ W hk.2 h1 h3 (h2.mono hk.1.1) (h4.mono hk.1.2) hE) (hs e e' k k' h2 h4)
   ·cases ha
  ·cases ha
 ·cases ha
theorem Kw (ok:h.Ok β):(yt β h).Ok Tryz.prog (SQ β) EV:=by
 intro db b args res new ha ρ W hf hE
 simp only [yt] at ha
 split at ha
 ·split at ha
  ·rename_i e k e' k' hx hy
   split at ha
   ·rename_i hk
    simp only [Bool.and_eq_true,decide_eq_true_eq] at hk
    split at ha
    ·rename_i n hn
     cases ha
     obtain ⟨h1,h2⟩:=jL hx hf
     obtain ⟨h3,h4⟩:=jL hy hf
     have hc:=FZ h1 h3 (h2.mono hk.1) (h4.mono hk.2) hE
     rw [iE ok hn] at hc
     exact mF hc rfl
    ·cases ha
   ·cases ha
  ·cases ha
 ·cases ha
theorem Kz (ok:h.Ok β):(yw β h).Ok Tryz.prog (SQ β) EV:=by
 intro db b args res new ha ρ W hf hE
 simp only [yw] at ha
 split at ha
 ·split at ha
  ·rename_i e k hx
   split at ha
   ·rename_i hk
    split at ha
    ·rename_i n hn
     cases ha
     obtain ⟨h1,h2⟩:=jL hx hf
     have hc:=TF h1 (h2.mono hk) hE
     rw [AB ok hn] at hc
     exact mF hc rfl
    ·cases ha
   ·cases ha
  ·cases ha
 ·cases ha
theorem Ky:(yu β).Ok Tryz.prog (SQ β) EV:=by
 intro db b args res new ha ρ W hf hE
 simp only [yu] at ha
 split at ha
 ·cases ha
  exact qo (e:=.c 1) (SN hE) (fits_int (n:=1) (by decide) (by decide))
 ·cases ha
  exact qo (e:=.c 2) (SS hE) (fits_int (n:=2) (by decide) (by decide))
 ·cases ha
theorem KE:(yE β).Ok Tryz.prog (SQ β) EV:=by
 intro db b args res new ha ρ W hf hE
 simp only [yE] at ha
 split at ha
 ·split at ha
  ·rename_i e k hx
   split at ha
   ·rename_i hk
    cases ha
    obtain ⟨⟨h1,h2⟩,-⟩:=dX hx hf
    exact xk (Cc _ _ k W h1 hk h2 hE.ten) rfl
   ·cases ha
  ·cases ha
 ·cases ha
theorem text0:fU 0=[48]:=by
 unfold fU
 rw [if_neg (by decide),if_pos (by decide),show (0:Rat).num.natAbs=0 from rfl,Lib.decDigits];rfl
theorem KA:(yx β).Ok Tryz.prog (SQ β) EV:=by
 intro db b args res new ha ρ W hf hE
 simp only [yx] at ha
 split at ha
 ·split at ha
  ·rename_i e k hx
   split at ha
   ·rename_i hk
    cases ha
    obtain ⟨h1,h2⟩:=jL hx hf
    exact xk (Z4.TI _ _ W h1 k hk h2) rfl
   ·cases ha
  ·split at ha
   ·rename_i hz
    cases ha
    unfold su at hz
    split at hz
    ·exact xk (e:=.c 0) (Z4.TK W) text0.symm
    ·cases hz
   ·cases ha
 ·cases ha
theorem KQ (ok:h.Ok β):∀ c∈yK β h,c.Ok Tryz.prog (SQ β) EV:=by
 unfold yK
 simp only [List.forall_mem_cons,List.not_mem_nil,false_imp_iff,implies_true,and_true]
 exact ⟨yh (fun _ _ _ _ _ _ h1 h2 f1 f2 hE=>Am h1 h2 f1 f2 hE) (fun _ _ _ _ h1 h2=>h1.plus h2),
  yh (fun _ _ _ _ _ _ h1 h2 f1 f2 hE=>Tc h1 h2 f1 f2 hE) (fun _ _ _ _ h1 h2=>h1.mul h2),
  yh (fun _ _ _ _ _ hn h1 h2 f1 f2 hE=>SE h1 h2 f1 f2 (lu ok hn) hE) (fun _ _ _ _ h1 h2=>h1.over h2),
  DI (fun _ _ _ _ h1 f1 hE=>Ar h1 f1 hE) (fun _ _ h1=>h1.neg),DI (fun _ _ _ _ h1 f1 hE=>Sm h1 f1 hE) (fun _ _ h1=>Ej h1),
  Kw ok,Kz ok,Ky,KE,KA⟩
theorem Jw (ok:h.Ok β):∀ c∈c0 β h,c.Ok Tryz.prog (SQ β) EV:=fun c hc=>by
 rcases List.mem_append.1 hc with hc | hc
 ·exact KQ ok c hc
 ·exact qH ok c hc
end
end Rx
namespace Rx
open Go.RowKit
def asD (db:List Fd):List Cell→Option (RE×Nat)
 | [.ob a,.os b,.bl false,.os c]=>if a=b && a+1=c then findD db a else none
 | _=>none
theorem oI {β:Nat→Rat} {ρ:Env} {W:World} {db:List Fd} {cs:List Cell} {e:RE} {k:Nat} (h:asD db cs=some (e,k)) (hf:∀ f∈db,(SR β).on ρ f W):Z4.IsR W (.agg (cs.map (Cell.den ρ)).toArray) (e.ev β)∧Fits k (e.ev β):=by
 unfold asD at h
 split at h
 ·split at h
  ·rename_i hh
   simp only [Bool.and_eq_true,decide_eq_true_eq] at hh
   obtain ⟨rfl,rfl⟩:=hh
   exact hf _ (jr h)
  ·cases h
 ·cases h
section
variable (β:Nat→Rat) (h:Hint)
def sU (f:FuncId) (op:RE→RE):Con (SR β) where
 fn:=f
 app:=fun db b args=>match args with
  | [.e (.a x)]=>match asD db x with
   | some (e,k)=>if k≤K2 then some (.e (.a (aV b)),[.r b (op e) k]) else none
   | none=>none
  | _=>none
def qF (f:FuncId) (op:RE→RE→RE):Con (SR β) where
 fn:=f
 app:=fun db b args=>match args with
  | [.e (.a x),.e (.a y)]=>match asD db x,asD db y with
   | some (e,k),some (e',k')=>if decide (k≤K2) && decide (k'≤K2) then some (.e (.a (aV b)),[.r b (op e e') (k+k' + 1)]) else none
   | _,_=>none
  | _=>none
def sV:Con (SR β) where
 fn:=39
 app:=fun db _ args=>match args with
  | [.e (.a x),.e (.a y)]=>match asD db x,asD db y with
   | some (e,k),some (e',k')=>if decide (k≤K2) && decide (k'≤K2) then (match cmB h e e' with
     | some n=>some (.e (.s (.it .i64 n)),[])
     | none=>none) else none
   | _,_=>none
  | _=>none
def xK (f:FuncId) (op:RE→RE):Con (SR β) where
 fn:=f
 app:=fun db b args=>match args with
  | [.e (.a x)]=>match asD db x with
   | some (e,k)=>if k≤K2 then some (.e (.a (zC b)),[.z b (op e) k]) else none
   | none=>none
  | _=>none
def xQ:Con (SR β) where
 fn:=22
 app:=fun _ b args=>match args with
  | [.e (.s (.it .i64 1)),.e (.s (.it .i64 2))]=>some (.e (.a (aV b)),[.r b (.div (.c 1) (.c 2)) 2])
  | _=>none
def yF:Con (SR β) where
 fn:=45
 app:=fun db b args=>match args with
  | [.e (.a x)]=>match asY db x with
   | some (e,k)=>if 1≤k then some (.e (.a (aV b)),[.r b e k]) else none
   | none=>none
  | _=>none
def tN:Con (SR β) where
 fn:=141
 app:=fun db b args=>match args with
  | [.e (.a x),.e (.a y)]=>match asY db x,asY db y with
   | some (e,k),some (e',k')=>if decide (k≤K1) && decide (k'≤K1) && iL e' then some (.t [.a (zC b),.a (zC (b+1))],[.z b (.flo (.div e e')) k,.z (b+1) (rem e e') k']) else none
   | _,_=>none
  | _=>none
end
def zJ (e:RE):Option (SV×List Fd)→Bool
 | some (.e (.a cs),fs)=>match asY fs cs with
  | some (e',_)=>e'.beq e
  | none=>false
 | _=>false
theorem Py {e:RE} {o:Option (SV×List Fd)} (h:zJ e o=true):∃ cs fs k,o=some (.e (.a cs),fs)∧asY fs cs=some (e,k):=by
 unfold zJ at h
 split at h
 ·split at h
  ·rename_i cs fs _ e' k ha;exact ⟨cs,fs,k,rfl,by rw [ha,RE.beq_eq h]⟩
  ·cases h
 ·cases h
section
variable {β:Nat→Rat} {h:Hint} {f:FuncId} {vals:Array Value} {W:World} {ρ:Env} {b:Nat}
theorem jW {ok:h.Ok β} {cons:List (Con (SR β))} {fuel:Nat} {args:List SV} {fs:List Fd} {n0:Nat} {e:RE} {z:Int} (hc:∀ c∈cons,c.Ok Tryz.prog (SR β) EV) (hr:zJ e (runF Tryz.prog (SR β) (HL β h ok) cons fuel f args fs n0)=true) (he:e.ev β=(z:Rat)) (hE:EV W) (hf:∀ g∈fs,Fd.on β ρ g W):Calls Tryz.prog f (args.map (SV.den ρ)).toArray W (Z4.dG W z):=by
 obtain ⟨cs,fs',k,heq,ha⟩:=Py hr
 refine (runF_ok mixed hc heq (fM hE) hf).mono fun x W' ⟨ρ',_,hx,hb,hfs⟩=>?_
 exact ⟨_,hx,kY (gy ha hfs) he,hb⟩
theorem Jd {z z':Int} {e e':RE} {k k':Nat} (hc:Calls Tryz.prog f vals W (wP W z z')) (hz:(z:Rat)=e.ev β) (hz':(z':Rat)=e'.ev β) (hk:z.natAbs<B64 ^ k) (hk':z'.natAbs<B64 ^ k'):Calls Tryz.prog f vals W (Anr β ρ b W (.t [.a (zC b),.a (zC (b+1))]) [.z b e k,.z (b+1) e' k']):=by
 refine hc.mono fun _ W' ⟨v,v',he,hv,hv',hb⟩=>?_
 obtain ⟨p,l,c,xs,rfl,hx⟩:=hv
 obtain ⟨p',l',c',xs',rfl,hx'⟩:=hv'
 have h1:(zC b).map (Cell.den (aC ρ b [⟨decide (z<0),0,p,l,c,.empty,0⟩,⟨decide (z' < 0),0,p',l',c',.empty,0⟩]))=[.bool (decide (z<0)),.slice p l c]:=by simp [zC,Cell.den,aC]
 have h2:(zC (b+1)).map (Cell.den (aC ρ b [⟨decide (z<0),0,p,l,c,.empty,0⟩,⟨decide (z' < 0),0,p',l',c',.empty,0⟩]))=[.bool (decide (z' < 0)),.slice p' l' c']:=by simp [zC,Cell.den,aC]
 refine ⟨_,dS (b:=b) (L:=[⟨decide (z<0),0,p,l,c,.empty,0⟩,⟨decide (z' < 0),0,p',l',c',.empty,0⟩]) (by simp [M]),?_,hb,fun g hg=>?_⟩
 ·rw [he];simp only [SV.den,El.den,List.map_cons,List.map_nil,h1,h2]
 ·simp only [List.mem_cons,List.not_mem_nil,or_false] at hg
  rcases hg with rfl | rfl
  ·exact ⟨z,by rw [h1];exact ⟨p,l,c,xs,rfl,hx⟩,hz,hk⟩
  ·exact ⟨z',by rw [h2];exact ⟨p',l',c',xs',rfl,hx'⟩,hz',hk'⟩
theorem Dz {op:RE→RE} (hc:∀ e v W,Z4.IsR W v (e.ev β)→Fits K2 (e.ev β)→EV W→Calls Tryz.prog f #[v] W (Z4.dw W ((op e).ev β))) (hs:∀ e k,Fits k (e.ev β)→Fits k ((op e).ev β)):(sU β f op).Ok Tryz.prog (SR β) EV:=by
 intro db b args res new ha ρ W hf hE
 simp only [sU] at ha
 split at ha
 ·split at ha
  ·rename_i e k hx
   split at ha
   ·rename_i hk
    cases ha
    obtain ⟨h1,h2⟩:=oI hx hf
    exact oG (hc e _ W h1 (h2.mono hk) hE) (hs e k h2)
   ·cases ha
  ·cases ha
 ·cases ha
theorem xJ {op:RE→RE→RE} (hc:∀ e e' v v' W,Z4.IsR W v (e.ev β)→Z4.IsR W v' (e'.ev β)→Fits K2 (e.ev β)→Fits K2 (e'.ev β)→EV W→Calls Tryz.prog f #[v,v'] W (Z4.dw W ((op e e').ev β)))
  (hs:∀ e e' k k',Fits k (e.ev β)→Fits k' (e'.ev β)→Fits (k+k' + 1) ((op e e').ev β)):(qF β f op).Ok Tryz.prog (SR β) EV:=by
 intro db b args res new ha ρ W hf hE
 simp only [qF] at ha
 split at ha
 ·split at ha
  ·rename_i e k e' k' hx hy
   split at ha
   ·rename_i hk
    simp only [Bool.and_eq_true,decide_eq_true_eq] at hk
    cases ha
    obtain ⟨h1,h2⟩:=oI hx hf
    obtain ⟨h3,h4⟩:=oI hy hf
    exact oG (hc e e' _ _ W h1 h3 (h2.mono hk.1) (h4.mono hk.2) hE) (hs e e' k k' h2 h4)
   ·cases ha
  ·cases ha
 ·cases ha
theorem DC (ok:h.Ok β):(sV β h).Ok Tryz.prog (SR β) EV:=by
 intro db b args res new ha ρ W hf hE
 simp only [sV] at ha
 split at ha
 ·split at ha
  ·rename_i e k e' k' hx hy
   split at ha
   ·rename_i hk
    simp only [Bool.and_eq_true,decide_eq_true_eq] at hk
    split at ha
    ·rename_i n hn
     cases ha
     obtain ⟨h1,h2⟩:=oI hx hf
     obtain ⟨h3,h4⟩:=oI hy hf
     have hc:=FZ h1 h3 (h2.mono hk.1) (h4.mono hk.2) hE
     rw [iE ok hn] at hc
     exact CP hc
    ·cases ha
   ·cases ha
  ·cases ha
 ·cases ha
theorem JY {op:RE→RE} {zo:Rat→Int} (hc:∀ r v W,Z4.IsR W v r→Fits K2 r→EV W→Calls Tryz.prog f #[v] W (Z4.dG W (zo r))) (ho:∀ e:RE,((zo (e.ev β):Int):Rat)=(op e).ev β) (hs:∀ r k,Fits k r→(zo r).natAbs<B64 ^ k):(xK β f op).Ok Tryz.prog (SR β) EV:=by
 intro db b args res new ha ρ W hf hE
 simp only [xK] at ha
 split at ha
 ·split at ha
  ·rename_i e k hx
   split at ha
   ·rename_i hk
    cases ha
    obtain ⟨h1,h2⟩:=oI hx hf
    exact rV (hc _ _ W h1 (h2.mono hk) hE) (ho e) (hs _ k h2)
   ·cases ha
  ·cases ha
 ·cases ha
theorem J5:(xQ β).Ok Tryz.prog (SR β) EV:=by
 intro db b args res new ha ρ W hf hE
 simp only [xQ] at ha
 split at ha
 ·cases ha
  have hc:=Z4.Au 1 2 (by decide) (by decide) (by decide) (by decide) (by decide) W
  exact oG (e:=.div (.c 1) (.c 2)) hc ((Em (z:=1) (d:=2) (k:=1) (k':=1) (by decide) (by decide) (by decide)).mono (by decide))
 ·cases ha
theorem Hu {z:Int} {v:Value} {k:Nat} (h1:Z4.IsZ W v z) (hk:z.natAbs<B64 ^ k) (hE:EV W):Calls Tryz.prog 45 #[v] W (Z4.dw W (z:Rat)):=by
 obtain ⟨p,l,c,xs,rfl,hx⟩:=h1
 exact jU (β:=bet [(z:Rat)]) (ρ:=ev [⟨decide (z<0),0,p,l,c,.empty,0⟩]) (args:=[.e (.a (zC 0))]) (fs:=[.z 0 (.v 0) k]) (e:=.v 0) (fuel:=1) (n0:=1) (gG (bK _)) (by kernel_rfl) rfl hE fun g hg=>by
  rw [List.mem_singleton] at hg;subst hg
  exact ⟨z,⟨p,l,c,xs,rfl,hx⟩,rfl,hk⟩
theorem KG:(yF β).Ok Tryz.prog (SR β) EV:=by
 intro db b args res new ha ρ W hf hE
 simp only [yF] at ha
 split at ha
 ·split at ha
  ·rename_i e k hx
   split at ha
   ·rename_i hk
    cases ha
    obtain ⟨z,h1,h2,h3⟩:=gy hx hf
    have hc:=Hu h1 h3 hE
    have hfit:Fits k (z:Rat):=⟨by rw [Rat.num_intCast];exact h3,by rw [Rat.den_intCast];exact Nat.one_lt_pow (by omega) (by decide)⟩
    rw [h2] at hc hfit
    exact oG hc hfit
   ·cases ha
  ·cases ha
 ·cases ha
theorem FV (a:Int) (m:Nat) (hm:0<m):(a / (m:Int)).natAbs≤a.natAbs:=by
 have h1:=Int.mul_ediv_add_emod a m
 have h2:=Int.emod_nonneg a (show (m:Int)≠0 by omega)
 have h3:=Int.emod_lt_of_pos a (show (0:Int)<m by omega)
 rcases Int.lt_or_le a 0 with ha | ha
 ·have:a≤a / (m:Int):=by
   rw [Int.le_ediv_iff_mul_le (by omega)]
   have:a*(m:Int)≤a*1:=Int.mul_le_mul_of_nonpos_left (by omega) (by omega)
   omega
  have:a / (m:Int)<0:=Int.ediv_neg_of_neg_of_pos ha (by omega)
  omega
 ·have h4:a / (m:Int)≤a:=Int.ediv_le_self _ ha
  have:0≤a / (m:Int):=Int.ediv_nonneg ha (by omega)
  omega
theorem DL:(tN β).Ok Tryz.prog (SR β) EV:=by
 have pk:∀ {k:Nat},k≤K1→B64 ^ k≤B64 ^ K1:=fun h=>Nat.pow_le_pow_right (show 0<B64 by decide) h
 intro db b args res new ha ρ W hf hE
 simp only [tN] at ha
 split at ha
 ·split at ha
  ·rename_i x y _ _ e k e' k' hx hy
   split at ha
   ·rename_i hk
    simp only [Bool.and_eq_true,decide_eq_true_eq] at hk
    cases ha
    obtain ⟨z,h1,h2,h3⟩:=gy hx hf
    obtain ⟨z',g1,g2,g3⟩:=gy hy hf
    have hp:0<z':=by
     have:=qQ (β:=β) hk.2
     rw [← g2] at this
     exact_mod_cast this
    obtain ⟨m,rfl⟩:∃ m:Nat,z' = (m:Int):=⟨z'.toNat,by omega⟩
    have hq:((z / (m:Int):Int):Rat)=(RE.flo (.div e e')).ev β:=by
     show _=((flo (e.ev β / e'.ev β):Int):Rat)
     rw [← h2,← g2,uo _ _ (by omega)]
    refine Jd (e:=.flo (.div e e')) (e':=rem e e') (Va h1 g1 (Nat.lt_of_lt_of_le h3 (pk hk.1.1)) (Nat.lt_of_lt_of_le g3 (pk hk.1.2)) hp hE) hq ?_ (Nat.lt_of_le_of_lt (FV _ _ (by omega)) h3) ?_
    ·show _=e.ev β - e'.ev β*(RE.flo (.div e e')).ev β
     rw [← hq,← h2,← g2,← Rat.intCast_mul]
     have h5:=congrArg (fun x:Int=>(x:Rat)) (Int.mul_ediv_add_emod z m)
     simp only [Rat.intCast_add] at h5
     grind
    ·have h6:=Int.emod_nonneg z (show (m:Int)≠0 by omega)
     have h7:=Int.emod_lt_of_pos z (show (0:Int)<m by omega)
     omega
   ·cases ha
  ·cases ha
 ·cases ha
variable {a:Rat} {v1:Value}
theorem Tf (h1:Z4.IsR W v1 a) (f1:Fits K2 a) (hE:EV W):Calls Tryz.prog 46 #[v1] W (Z4.dG W a.num):=
 nR h1 f1 fun ρ hg=>jW (ok:=bK _) (cons:=cr (bet [a]) {}) (β:=bet [a]) (e:=.num (.v 0)) (fuel:=1) (n0:=4) (gG (bK _)) (by kernel_rfl) rfl hE hg
theorem SC (h1:Z4.IsR W v1 a) (f1:Fits K2 a) (hE:EV W):Calls Tryz.prog 48 #[v1] W (Z4.dG W (a.den:Int)):=
 nR h1 f1 fun ρ hg=>jW (ok:=bK _) (cons:=cr (bet [a]) {}) (β:=bet [a]) (e:=.den (.v 0)) (fuel:=1) (n0:=4) (gG (bK _)) (by kernel_rfl) rfl hE hg
theorem MV (a:Rat):flo ((a.num:Rat) / (((a.den:Nat):Int):Rat))=flo a:=by
 rw [uo _ _ a.den_pos];rfl
theorem F8 (h1:Z4.IsR W v1 a) (f1:Fits K2 a) (hE:EV W):Calls Tryz.prog 50 #[v1] W (Z4.dG W (flo a)):=
 nR h1 f1 fun ρ hg=>jW (ok:=bK _) (cons:=tN (bet [a]) :: cr (bet [a]) {}) (β:=bet [a]) (e:=.flo (.div (.num (.v 0)) (.den (.v 0)))) (fuel:=1) (n0:=4)
  (fun c hc=>by rcases List.mem_cons.1 hc with rfl | hc;exact DL;exact gG (bK _) c hc) (by kernel_rfl) (by show ((flo ((a.num:Rat) / (((a.den:Nat):Int):Rat)):Int):Rat)=_;rw [MV]) hE hg
theorem ng {r:Rat} {k:Nat} (h:Fits k r):(flo r).natAbs<B64 ^ k:=Nat.lt_of_le_of_lt (FV _ _ r.den_pos) h.1
def cd (β:Nat→Rat) (h:Hint):List (Con (SR β)):=sU β 35 .neg :: qF β 29 .add :: qF β 31 .sub :: sV β h :: xK β 50 .flo :: xQ β :: yF β :: tN β :: cr β h
theorem TG {b:Rat} {v2:Value} (h1:Z4.IsR W v1 a) (h2:Z4.IsR W v2 b) (f1:Fits K2 a) (f2:Fits K2 b) (hE:EV W):Calls Tryz.prog 31 #[v1,v2] W (Z4.dw W (a - b)):=
 qY h1 h2 f1 f2 fun ρ hg=>jU (β:=bet [a,b]) (e:=.add (.v 0) (.neg (.v 1))) (fuel:=1) (n0:=4) (cons:=[sU _ 35 .neg,qF _ 29 .add])
  (by
   simp only [List.forall_mem_cons,List.not_mem_nil,false_imp_iff,implies_true,and_true]
   exact ⟨Dz (fun _ _ _ h1 f1 hE=>Ar h1 f1 hE) (fun _ _ h=>h.neg),xJ (fun _ _ _ _ _ h1 h2 f1 f2 hE=>Am h1 h2 f1 f2 hE) (fun _ _ _ _ h1 h2=>h1.plus h2)⟩) (by kernel_rfl) (by show a + -b=a - b;rw [Rat.sub_eq_add_neg]) hE hg
theorem Dh (ok:h.Ok β):∀ c∈cd β h,c.Ok Tryz.prog (SR β) EV:=by
 unfold cd
 simp only [List.forall_mem_cons]
 exact ⟨Dz (fun _ _ _ h1 f1 hE=>Ar h1 f1 hE) (fun _ _ h=>h.neg),xJ (fun _ _ _ _ _ h1 h2 f1 f2 hE=>Am h1 h2 f1 f2 hE) (fun _ _ _ _ h1 h2=>h1.plus h2),xJ (fun _ _ _ _ _ h1 h2 f1 f2 hE=>TG h1 h2 f1 f2 hE) (fun _ _ _ _ h1 h2=>h1.minus h2),
  DC ok,JY (zo:=flo) (fun _ _ _ h1 f1 hE=>F8 h1 f1 hE) (fun _=>rfl) (fun _ _ h=>ng h),J5,KG,DL,gG ok⟩
theorem SB (h1:Z4.IsR W v1 a) (f1:Fits K2 a) (hE:EV W):Calls Tryz.prog 52 #[v1] W (Z4.dG W (-(flo (-a)))):=
 nR h1 f1 fun ρ hg=>jW (ok:=bK _) (cons:=cd (bet [a]) {}) (β:=bet [a]) (e:=.neg (.flo (.neg (.v 0)))) (fuel:=1) (n0:=4) (Dh (bK _)) (by kernel_rfl) (by rw [Rat.intCast_neg];rfl) hE hg
end
abbrev rz:RE:=.flo (.add (.v 0) (.div (.c 1) (.c 2)))
section
variable {W:World} {a:Rat} {v1:Value}
theorem Vf {x y:Int} {v v':Value} (h1:Z4.IsZ W v x) (h2:Z4.IsZ W v' y) (ka:x.natAbs<B64 ^ K2) (kb:y.natAbs<B64 ^ K2) (hE:EV W):Calls Tryz.prog 143 #[v,v'] W (Z4.dG W (x - y)):=by
 obtain ⟨p,l,c,xs,rfl,hx⟩:=h1
 obtain ⟨p',l',c',xs',rfl,hx'⟩:=h2
 exact jW (W:=W) (β:=bet [(x:Rat),(y:Rat)]) (ok:=bK _) (ρ:=ev [⟨decide (x<0),0,p,l,c,.empty,0⟩,⟨decide (y<0),0,p',l',c',.empty,0⟩]) (args:=[.e (.a (zC 0)),.e (.a (zC 1))]) (fs:=[.z 0 (.v 0) K2,.z 1 (.v 1) K2]) (e:=.add (.v 0) (.neg (.v 1))) (fuel:=1) (n0:=2) (gG (bK _)) (by kernel_rfl)
  (by show (x:Rat) + -(y:Rat)=_;rw [Rat.intCast_sub,Rat.sub_eq_add_neg]) hE fun g hg=>by
  simp only [List.mem_cons,List.not_mem_nil,or_false] at hg
  rcases hg with rfl | rfl
  ·exact ⟨x,⟨p,l,c,xs,rfl,hx⟩,rfl,ka⟩
  ·exact ⟨y,⟨p',l',c',xs',rfl,hx'⟩,rfl,kb⟩
def yJ (β:Nat→Rat):Con (SR β) where
 fn:=143
 app:=fun db b args=>match args with
  | [.e (.a x),.e (.a y)]=>match asY db x,asY db y with
   | some (e,k),some (e',k')=>if decide (k≤K2) && decide (k'≤K2) then some (.e (.a (zC b)),[.z b (.sub e e') (max k k' + 1)]) else none
   | _,_=>none
  | _=>none
theorem KN {β:Nat→Rat}:(yJ β).Ok Tryz.prog (SR β) EV:=by
 have pk:∀ {k k':Nat},k≤k'→B64 ^ k≤B64 ^ k':=fun h=>Nat.pow_le_pow_right (show 0<B64 by decide) h
 intro db b args res new ha ρ W hf hE
 simp only [yJ] at ha
 split at ha
 ·split at ha
  ·rename_i x y _ _ e k e' k' hx hy
   split at ha
   ·rename_i hk
    simp only [Bool.and_eq_true,decide_eq_true_eq] at hk
    cases ha
    obtain ⟨z,h1,h2,h3⟩:=gy hx hf
    obtain ⟨z',g1,g2,g3⟩:=gy hy hf
    refine rV (e:=.sub e e') (Vf h1 g1 (Nat.lt_of_lt_of_le h3 (pk hk.1)) (Nat.lt_of_lt_of_le g3 (pk hk.2)) hE) (by rw [Rat.intCast_sub,h2,g2];rfl) ?_
    have a1:=pk (Nat.le_max_left k k')
    have a2:=pk (Nat.le_max_right k k')
    rw [Nat.pow_succ]
    have:B64 ^ max k k' * 2≤B64 ^ max k k' * B64:=Nat.mul_le_mul_left _ (by decide)
    omega
   ·cases ha
  ·cases ha
 ·cases ha
theorem TD (h1:Z4.IsR W v1 a) (f1:Fits 1024 a) (hE:EV W):Calls Tryz.prog 54 #[v1] W (Z4.dG W (rnd a)):=by
 obtain ⟨z,hz⟩:∃ z,flo (a+mkRat 1 2)=z:=⟨_,rfl⟩
 obtain ⟨r1,r2⟩:=Td a z hz
 have hh:(RE.div (.c 1) (.c 2)).ev (bet [a])=mkRat 1 2:=by show ((1:Int):Rat) / ((2:Int):Rat)=_;decide +kernel
 have hzz:rz.ev (bet [a])=(z:Rat):=by
  show ((flo (a+(RE.div (.c 1) (.c 2)).ev (bet [a])):Int):Rat)=_
  rw [hh,hz]
 have hrem:(rem rz (.c 2)).ev (bet [a])=((z % 2:Int):Rat):=by
  show rz.ev (bet [a]) - ((2:Int):Rat)*((flo (rz.ev (bet [a]) / ((2:Int):Rat)):Int):Rat)=_
  rw [hzz,show ((2:Int):Rat)=(((2:Nat):Int):Rat) from rfl,uo z 2 (by decide),← Rat.intCast_mul]
  have h5:=congrArg (fun x:Int=>(x:Rat)) (Int.mul_ediv_add_emod z 2)
  simp only [Rat.intCast_add] at h5
  grind
 have hcm:aG ((RE.sub rz (.v 0)).ev (bet [a])) ((RE.div (.c 1) (.c 2)).ev (bet [a]))=aG ((z:Rat) - a) (mkRat 1 2):=by
  rw [hh];show aG (rz.ev (bet [a]) - a) _=_;rw [hzz]
 have okc:∀ {h:Hint} (ok:h.Ok (bet [a])),∀ c∈yJ (bet [a]) :: cd (bet [a]) h,c.Ok Tryz.prog (SR (bet [a])) EV:=fun ok c hc=>by
  rcases List.mem_cons.1 hc with rfl | hc
  ·exact KN
  ·exact Dh ok c hc
 have one:∀ {R:Ending→World→Prop},(∀ ρ:Env,(∀ g∈[Fd.r 0 (.v 0) 1024],Fd.on (bet [a]) ρ g W)→Calls Tryz.prog 54 ([rr 0].map (SV.den ρ)).toArray W R)→Calls Tryz.prog 54 #[v1] W R:=fun go=>by
  obtain ⟨c,d,rfl⟩:=jc h1
  refine go (ev [c,d]) fun g hg=>?_
  rw [List.mem_singleton] at hg
  subst hg
  exact ⟨h1,f1⟩
 by_cases hp:z % 2=1
 ·have hn:(rem rz (.c 2)).ev (bet [a])≠0:=by rw [hrem,hp];decide +kernel
  rcases oJ ((z:Rat) - a) (mkRat 1 2) with hc | hc | hc
  ·rw [r2 (by rw [hc];omega)]
   have ok:Hint.Ok (bet [a]) { cm:=[(.sub rz (.v 0),.div (.c 1) (.c 2),-1)],nz:=[rem rz (.c 2)] }:=dO (fun p hp=>by rw [List.mem_singleton] at hp;subst hp;exact hcm.trans hc) (fun p hp=>by rw [List.mem_singleton] at hp;subst hp;exact hn) (fun p h=>by cases h)
   exact one fun ρ hg=>jW (ok:=ok) (e:=rz) (fuel:=1) (n0:=2) (okc ok) (by kernel_rfl) hzz hE hg
  ·rw [r1 ⟨hp,hc⟩]
   have ok:Hint.Ok (bet [a]) { cm:=[(.sub rz (.v 0),.div (.c 1) (.c 2),0)],nz:=[rem rz (.c 2)] }:=dO (fun p hp=>by rw [List.mem_singleton] at hp;subst hp;exact hcm.trans hc) (fun p hp=>by rw [List.mem_singleton] at hp;subst hp;exact hn) (fun p h=>by cases h)
   exact one fun ρ hg=>jW (ok:=ok) (e:=.sub rz (.c 1)) (fuel:=1) (n0:=2) (okc ok) (by kernel_rfl) (by show rz.ev (bet [a]) - ((1:Int):Rat)=_;rw [hzz,Rat.intCast_sub]) hE hg
  ·rw [r2 (by rw [hc];omega)]
   have ok:Hint.Ok (bet [a]) { cm:=[(.sub rz (.v 0),.div (.c 1) (.c 2),1)],nz:=[rem rz (.c 2)] }:=dO (fun p hp=>by rw [List.mem_singleton] at hp;subst hp;exact hcm.trans hc) (fun p hp=>by rw [List.mem_singleton] at hp;subst hp;exact hn) (fun p h=>by cases h)
   exact one fun ρ hg=>jW (ok:=ok) (e:=rz) (fuel:=1) (n0:=2) (okc ok) (by kernel_rfl) hzz hE hg
 ·rw [r2 (fun h=>hp h.1)]
  have ok:Hint.Ok (bet [a]) { eq:=[(rem rz (.c 2),.c 0)] }:=dO (fun p h=>by cases h) (fun p h=>by cases h) (fun p hp'=>by rw [List.mem_singleton] at hp';subst hp';rw [hrem,show z % 2=0 by omega];rfl)
  exact one fun ρ hg=>jW (ok:=ok) (e:=rz) (fuel:=1) (n0:=2) (okc ok) (by kernel_rfl) hzz hE hg
end
end Rx
namespace Rx
open Go.RowKit
abbrev K3:Nat:=1024
abbrev y0:RE:=.v 0
abbrev y1:RE:=.v 1
abbrev y2:RE:=.v 2
abbrev y3:RE:=.v 3
abbrev Q2:List At:=[.q,.q]
abbrev R2:List At:=[.r,.r]
def pU (x:RE):RE:=.add (.c 1) x
def sqs (x y:RE):RE:=.add (.mul x x) (.mul y y)
def tR (e:RE):RE:=.div (.mul (.c 2) e) (.add (.c 1) (.mul e e))
def NM (β:Nat→Rat) (h:Hint):Con (SQ β):=aY β h 31 [[.r],[.r]] 16384 {} (.at [.r] [.sub y0 y1]) 32769
def y8 (β:Nat→Rat) (h:Hint):Con (SQ β):=aY β h 19 [[.q],[.r]] K1 { eq:=[(y0,y1)] } (.bl true) K1
theorem NW {β:Nat→Rat} {h:Hint} (ok:h.Ok β):(y8 β h).Ok Tryz.prog (SQ β) EV:=J4 ok (by decide) fun γ g=>⟨{ eq:=[(y0,y1)] },g,1,c0 γ { eq:=[(y0,y1)] },Jw g,by kernel_rfl⟩
def NT (β:Nat→Rat) (h:Hint):Con (SQ β):=aY β h 19 [[.q],[.o]] K1 { eq:=[(y0,.c 0)] } (.bl true) K1
def c1 (β:Nat→Rat) (h:Hint):List (Con (SQ β)):=NM β h :: y8 β h :: NT β h :: c0 β h
def NU (β:Nat→Rat) (h:Hint):Con (SQ β):=aY β h 67 [Q2,R2] K1 { eq:=[(y0,y2),(y1,y3)] } (.bl true) K1
def NV (β:Nat→Rat) (h:Hint):Con (SQ β):=aY β h 82 [Q2,R2] K1 { eq:=[(y0,y2),(y1,y3)] } (.bl true) K1
def Nl (β:Nat→Rat) (h:Hint):Con (SQ β):=aY β h 68 [Q2,Q2] K3 {} (.at Q2 [.add y0 y2,.add y1 y3]) K1
def NZ (β:Nat→Rat) (h:Hint):Con (SQ β):=aY β h 70 [Q2,Q2] K3 {} (.at Q2 [.sub y0 y2,.sub y1 y3]) K1
def NY (β:Nat→Rat) (h:Hint):Con (SQ β):=aY β h 72 [Q2,[.q]] K3 {} (.at Q2 [.mul y0 y2,.mul y1 y2]) K1
def Nw (β:Nat→Rat) (h:Hint):Con (SQ β):=aY β h 69 [R2,R2] K3 {} (.at R2 [.add y0 y2,.add y1 y3]) K1
def Ny (β:Nat→Rat) (h:Hint):Con (SQ β):=aY β h 71 [R2,R2] K3 {} (.at R2 [.sub y0 y2,.sub y1 y3]) K1
def NK (β:Nat→Rat) (h:Hint):Con (SQ β):=aY β h 73 [R2,[.r]] K3 {} (.at R2 [.mul y0 y2,.mul y1 y2]) K1
def NH (β:Nat→Rat) (h:Hint):Con (SQ β):=aY β h 75 [R2,R2] K3 {} (.at [.r] [.add (.mul y0 y2) (.mul y1 y3)]) K1
def NG (β:Nat→Rat) (h:Hint):Con (SQ β):=aY β h 77 [R2,R2] K3 {} (.at [.r] [.sub (.mul y0 y3) (.mul y1 y2)]) K1
def Nz (β:Nat→Rat) (h:Hint):Con (SQ β):=aY β h 79 [R2,R2] K3 {} (.at R2 [.sub (.mul y2 y0) (.mul y3 y1),.add (.mul y3 y0) (.mul y2 y1)]) K1
def NP (β:Nat→Rat) (h:Hint):Con (SQ β):=aY β h 86 [R2,R2] K3 {} (.at R2 [.sub (.mul y0 y2) (.mul y1 y3),.add (.mul y1 y2) (.mul y0 y3)]) K1
def ND (β:Nat→Rat) (h:Hint):Con (SQ β):=aY β h 88 [R2] K3 {} (.at R2 [y0,.neg y1]) K1
def NQ (β:Nat→Rat) (h:Hint):Con (SQ β):=aY β h 84 [[.r]] K3 {} (.at R2 [tC y0,tR y0]) K1
def Nr (β:Nat→Rat) (h:Hint):Con (SQ β):=aY β h 74 [Q2,Q2] K3 {} (.at [.q] [.add (.mul y0 y2) (.mul y1 y3)]) K1
def Nq (β:Nat→Rat) (h:Hint):Con (SQ β):=aY β h 76 [Q2,Q2] K3 {} (.at [.q] [.sub (.mul y0 y3) (.mul y1 y2)]) K1
def NC (β:Nat→Rat) (h:Hint):Con (SQ β):=aY β h 78 [Q2,Q2] K3 {} (.at Q2 [.sub (.mul y2 y0) (.mul y3 y1),.add (.mul y3 y0) (.mul y2 y1)]) K1
def N7 (β:Nat→Rat) (h:Hint):Con (SQ β):=aY β h 85 [Q2,Q2] K3 {} (.at Q2 [.sub (.mul y0 y2) (.mul y1 y3),.add (.mul y1 y2) (.mul y0 y3)]) K1
def Np (β:Nat→Rat) (h:Hint):Con (SQ β):=aY β h 87 [Q2] K3 {} (.at Q2 [y0,.neg y1]) K1
def Ns (β:Nat→Rat) (h:Hint):Con (SQ β):=aY β h 80 [[.q,.q]] K3 { nz:=[pU y0] } (.atb [.q] [.div y1 (pU y0)] true) K1
def N8 (β:Nat→Rat) (h:Hint):Con (SQ β):=aY β h 89 [Q2] K3 { eq:=[(sqs y0 y1,.c 1)] } (.bl true) K1
def NI (β:Nat→Rat) (h:Hint):Con (SQ β):=aY β h 81 [[.r,.r]] K3 { nz:=[pU y0] } (.atb [.r] [.div y1 (pU y0)] true) K1
def Nu (β:Nat→Rat) (h:Hint):Con (SQ β):=aY β h 80 [Q2] K3 { sg:=[(pU y0,0)] } (.atb [.q] [.c 0] false) K1
def NJ (β:Nat→Rat) (h:Hint):Con (SQ β):=aY β h 81 [R2] K3 { sg:=[(pU y0,0)] } (.atb [.o] [.c 0] false) K1
def NR (β:Nat→Rat) (h:Hint):Con (SQ β):=aY β h 90 [R2] K3 { eq:=[(sqs y0 y1,.c 1)] } (.bl true) K1
def N9 (β:Nat→Rat) (h:Hint):Con (SQ β):=aY β h 89 [Q2] K3 { ne:=[(sqs y0 y1,.c 1)] } (.bl false) K1
def NS (β:Nat→Rat) (h:Hint):Con (SQ β):=aY β h 90 [R2] K3 { ne:=[(sqs y0 y1,.c 1)] } (.bl false) K1
def c2 (β:Nat→Rat) (h:Hint):List (Con (SQ β)):=Nr β h :: Nq β h :: NC β h :: N7 β h :: Np β h :: Ns β h :: N8 β h :: NU β h :: NV β h :: Nl β h :: NZ β h :: NY β h :: Nw β h :: Ny β h :: NK β h :: NH β h :: NG β h :: Nz β h :: NP β h :: ND β h :: NQ β h :: NI β h :: Nu β h :: NJ β h :: NR β h :: N9 β h :: NS β h :: c1 β h
def c3 (β:Nat→Rat) (h:Hint):List (Con (SQ β)):=JV β :: sS β :: (c2 β h ++ cl1 β)
end Rx
namespace Rx
open Go.RowKit
theorem MR {k:Nat} {r:Rat} (h:Fits k r):Fits k ((flo r:Int):Rat):=
 ⟨by rw [Rat.num_intCast];exact ng h,by rw [Rat.den_intCast];have:=h.2;have:=r.den_pos;omega⟩
abbrev DF (β:Nat→Rat):Con (SQ β):=qE β 49 .flo id
theorem J3 {β:Nat→Rat}:(DF β).Ok Tryz.prog (SQ β) EV:=
 xE fun e k v W hk h1 h2 _=>⟨rF _ v k W h1 (by simp only [K0] at hk;omega) h2,MR h2⟩
def xX (β:Nat→Rat) (e0:RE) (x:Bool):Con (SQ β) where
 fn:=142
 app:=fun db _ args=>match args with
  | [.e (.a [.ou a,.os b])]=>if a=b then (match kP db a with
    | some (e,k)=>if e.beq e0 && decide (k≤K1) then some (.e (.s (.bl x)),[]) else none
    | none=>none) else none
  | _=>none
theorem Ko {β:Nat→Rat} {e0:RE} {x:Bool} (hx:((e0.ev β).num.natAbs % 2 == 1)=x):(xX β e0 x).Ok Tryz.prog (SQ β) EV:=by
 intro db b args res new ha ρ W hf hE
 simp only [xX] at ha
 split at ha
 ·rename_i a b
  split at ha
  ·rename_i hab
   subst hab
   split at ha
   ·rename_i e k hq
    split at ha
    ·rename_i hk
     simp only [Bool.and_eq_true,decide_eq_true_eq] at hk
     cases ha
     obtain ⟨h1,h2⟩:=hf _ (jw hq)
     rw [← RE.beq_eq hk.1] at hx
     obtain ⟨t,x1,p,l,q,y,p',s,u,hv,i,-,-⟩:=IsQ.shape h1
     have hv':=congrArg Array.toList (Value.agg.inj hv)
     simp only [aJ,List.map_cons,List.map_nil,Cell.den,List.cons.injEq,Value.slice.injEq,Value.int.injEq,true_and,and_true] at hv'
     obtain ⟨-,rfl,⟨rfl,rfl,rfl⟩,-⟩:=hv'
     have hc:=O1 _ _ _ k W i (by simp only [K1] at hk;omega) h2.1
     rw [hx] at hc
     exact mF hc rfl
    ·cases ha
   ·cases ha
  ·cases ha
 ·cases ha
section
variable {a:Rat} {v:Value} {W:World}
theorem one_num {f:FuncId} {R:Ending→World→Prop} (h1:IsQ W v a) (f1:Fits 1024 a)
  (go:∀ ρ:Env,(∀ g∈[Fc.q 0 (.v 0) 1024],Fc.on (bet [a]) ρ g W)→Calls Tryz.prog f ([SV.e (.a (aJ 0))].map (SV.den ρ)).toArray W R):Calls Tryz.prog f #[v] W R:=by
 obtain ⟨c,d,rfl⟩:=nT h1
 refine go (ev [c,d]) fun g hg=>?_
 rw [List.mem_singleton] at hg
 subst hg
 exact ⟨h1,f1⟩
def ce (β:Nat→Rat) (h:Hint) (x:Bool):List (Con (SQ β)):=DF β :: xX β (.flo (.v 0)) x :: cq β h
theorem qA {β:Nat→Rat} {h:Hint} (ok:h.Ok β) {x:Bool} (hx:((flo (β 0)).natAbs % 2 == 1)=x):∀ c∈ce β h x,c.Ok Tryz.prog (SQ β) EV:=by
 unfold ce
 simp only [List.forall_mem_cons]
 exact ⟨J3,Ko (e0:=.flo (.v 0)) (by rw [← hx];show ((((flo (β 0):Int):Rat)).num.natAbs % 2 == 1)=_;rw [Rat.num_intCast]),qH ok⟩
theorem Jy (h1:IsQ W v a) (f1:Fits 1024 a) (hE:EV W):Calls Tryz.prog 51 #[v] W (aT W ((-(flo (-a)):Int):Rat)):=
 one_num h1 f1 fun ρ hg=>by
  rw [Rat.intCast_neg]
  exact qV (ok:=bK _) (β:=bet [a]) (e:=.neg (.flo (.neg (.v 0)))) (fuel:=1) (b:=2) (cons:=ce (bet [a]) {} _) (qA (bK _) rfl) (by kernel_rfl) hE hg
theorem Tz (h1:IsQ W v a) (f1:Fits 1024 a) (hE:EV W):Calls Tryz.prog 53 #[v] W (aT W (rnd a:Rat)):=by
 obtain ⟨c,hc⟩:∃ c,aG (a - (flo a:Rat)+(a - (flo a:Rat))) 1=c:=⟨_,rfl⟩
 obtain ⟨x,hx⟩:∃ x,((flo a).natAbs % 2 == 1)=x:=⟨_,rfl⟩
 have hr:rnd a=if c=1∨(c=0∧x=true) then flo a+1 else flo a:=by
  unfold rnd
  rw [hc]
  have he:(flo a % 2=1)↔(x=true):=by rw [← hx,beq_iff_eq];omega
  by_cases h1:c=1∨(c=0∧flo a % 2=1)
  ·rw [if_pos h1,if_pos (by rwa [he] at h1)]
  ·rw [if_neg h1,if_neg (by rwa [he] at h1)]
 have ok:Hint.Ok (bet [a]) { cm:=[(.add (.sub (.v 0) (.flo (.v 0))) (.sub (.v 0) (.flo (.v 0))),.c 1,c)] }:=dO (fun p hp=>by rw [List.mem_singleton] at hp;subst hp;exact hc) (fun p h=>by cases h) (fun p h=>by cases h)
 have hx':((flo ((bet [a]) 0)).natAbs % 2 == 1)=x:=hx
 have c3:=oJ (a - (flo a:Rat)+(a - (flo a:Rat))) 1
 rw [hc] at c3
 clear hc hx
 have up:(RE.add (.flo (.v 0)) (.c 1)).ev (bet [a])=((flo a+1:Int):Rat):=by rw [Rat.intCast_add];rfl
 rcases c3 with rfl | rfl | rfl
 ·rw [hr,if_neg (by omega)]
  cases x <;> exact one_num h1 f1 fun ρ hg=>qV (ok:=ok) (e:=.flo (.v 0)) (fuel:=1) (b:=2) (qA ok hx') (by kernel_rfl) hE hg
 ·cases x
  ·rw [hr,if_neg (by simp)]
   exact one_num h1 f1 fun ρ hg=>qV (ok:=ok) (e:=.flo (.v 0)) (fuel:=1) (b:=2) (qA ok hx') (by kernel_rfl) hE hg
  ·rw [hr,if_pos (by simp),← up]
   exact one_num h1 f1 fun ρ hg=>qV (ok:=ok) (e:=.add (.flo (.v 0)) (.c 1)) (fuel:=1) (b:=2) (qA ok hx') (by kernel_rfl) hE hg
 ·rw [hr,if_pos (by simp),← up]
  cases x <;> exact one_num h1 f1 fun ρ hg=>qV (ok:=ok) (e:=.add (.flo (.v 0)) (.c 1)) (fuel:=1) (b:=2) (qA ok hx') (by kernel_rfl) hE hg
end
end Rx
namespace Z4
open Go.RowKit Go.Sort
theorem U7 (a:Int) (v:Value) (w:World) (h:IsZ w v a) (ka:a.natAbs<B64 ^ 4) (hE:Env w):Calls Tryz.prog 138 #[v] w (BO w a.natAbs):=by
 obtain ⟨p,l,k,xs,rfl,hL,dx,tx,hv⟩:=h
 obtain ⟨t,ht⟩:∃ t,decide (a<0)=t:=⟨_,rfl⟩
 obtain ⟨n,hn⟩:∃ n,a.natAbs=n:=⟨_,rfl⟩
 rw [hn] at ka hv ⊢
 rw [ht]
 clear ht hn
 have hk:B64 ^ 4=2 ^ 256:=by decide +kernel
 rw [hk] at ka
 have hlen:xs.length≤1099511627776:=Nat.le_trans (bG (k:=20) tx (by rw [hv];exact Nat.lt_of_lt_of_le ka (by decide +kernel))) (by decide)
 have HZ:=hid (fun (W:World)=>jg 1 (by decide) (by decide) W)
 have HA:=hid (fun (W:World) (v2:Value) (ys:List Nat) (h:IsL 0 W (.slice p l k) xs) (h2:IsL 0 W v2 ys) (dy:Dig ys) (ty:aA ys) (hy:ys.length≤1099511627776)=>ql (.slice p l k) v2 xs ys W h h2 dx dy tx ty hlen hy)
 rw [hv] at HA
 have HE:=hid hE
 have HL:=hid hL
 have HK:=hid ka
 clear hL dx tx hv hlen hE ka hk
 go_enter Tryz.func138,Tryz.ntmps138
 go_wp2_with fail
 have hS0:=hid ((St.start w).alloc' (w.heap.size) (by simp) 38 [.bool t,.slice p l k])
 obtain ⟨W0,hW0⟩:=aK hS0
 rw [hW0] at hS0 ⊢
 clear hW0
 refine (HZ.out _).mono ?_
 rintro e w1 hret
 obtain ⟨v1,rfl,hz1,hB⟩:=hret.z
 clear hret
 have hS1:=hid (hS0.out.call hB)
 clear hB hS0
 obtain ⟨t1,p1,l1,k1,rfl⟩:=hz1.open
 have hS2:=hid ((hS1.out.fact (.l 0 (.slice p l k) xs) (HL.out.below hS1.out.bel)).fact (.z (.agg #[.bool t1,.slice p1 l1 k1]) 1) hz1)
 clear hS1 hz1
 obtain ⟨ne1l,ne1,ne1'⟩:=hS2.out.ne 0 w.heap.size 38 [.bool t,.slice p l k] rfl
 go_wp2_with fail
 have hS3:=hid ((hS2.out).alloc' (w1.heap.size) (by simp) 38 [.bool t1,.slice p1 l1 k1])
 obtain ⟨W3,hW3⟩:=aK hS3
 rw [hW3] at hS3 ⊢
 clear hW3 hS2
 go_loopw [3] (fun iv wr=>∃ (j:Nat) (t2:Bool) (p2:Option Addr) (l2 k2:Nat),iv=.int .i64 (j:Int)∧j≤256∧(1≤j→2 ^ (j - 1)≤n)∧St w [⟨w1.heap.size,38,[.bool t2,.slice p2 l2 k2]⟩,⟨w.heap.size,38,[.bool t,.slice p l k]⟩] [.z (.agg #[.bool t2,.slice p2 l2 k2]) ((2 ^ j:Nat):Int),.l 0 (.slice p l k) xs] wr) (fun iv _=>257 - (intOf iv).toNat)
 case atStart=>exact ⟨0,t1,p1,l1,k1,rfl,by omega,fun h=>absurd h (by omega),hS3.out⟩
 case round =>
  clear hS3 HL
  obtain ⟨j,t2,p2,l2,k2,rfl,hj,hlow,hSt⟩:=hrel
  have HS:=hid hSt
  have HJ:=hid hlow
  clear hSt hlow
  obtain ⟨pp,ll,kk,ys,hv2,hl2,dy,ty,hy⟩:=HS.out.get (f:=.z (.agg #[.bool t2,.slice p2 l2 k2]) ((2 ^ j:Nat):Int)) 0 rfl
  have he2:=congrArg Array.toList (Value.agg.inj hv2)
  simp only [List.cons.injEq,Value.slice.injEq,and_true] at he2
  obtain ⟨-,rfl,rfl,rfl⟩:=he2
  rw [Int.natAbs_natCast] at hy
  have hpow:2 ^ j≤2 ^ 256:=Nat.pow_le_pow_right (by decide) hj
  have hylen:ys.length≤1099511627776:=Nat.le_trans (bG (k:=20) ty (by rw [hy];exact Nat.lt_of_le_of_lt hpow (by decide +kernel))) (by decide)
  have HP:=hid hpow
  have HC:=hid (fun (W:World) (hb:Below wr.heap.size wr W)=>HA.out W _ ys ((HS.out.get (f:=.l 0 (.slice p l k) xs) 1 rfl).below hb) (hl2.below hb) dy ty hylen)
  rw [hy] at HC
  clear hv2 hl2 dy ty hy hpow hylen HA
  obtain ⟨⟨cA0,cA1⟩,fA0,fA1⟩:=HS.out.f2 1 w.heap.size 38 (.bool t) (.slice p l k) rfl
  obtain ⟨⟨cT0,cT1⟩,fT0,fT1⟩:=HS.out.f2 0 w1.heap.size 38 (.bool t2) (.slice p2 l2 k2) rfl
  go_wp2_with fail
  clear cA0 cA1 fA0 fA1 cT0 cT1 fT0 fT1
  refine (HC.out _ (Below.refl _ _)).mono ?_
  rintro e w2 ⟨rfl,q,hq⟩
  have hB:Below wr.heap.size wr w2:=by rw [hq];exact dI (Below.refl _ _) q
  have HS1:=hid (HS.out.call hB)
  have HE1:=hid (HE.out.below (HS.out.call hB).bel (Nat.le_refl _))
  clear hq hB HS HC
  by_cases hlt:2 ^ j≤n
  ·obtain ⟨c,hc,hc0⟩:∃ c,aF n (2 ^ j)=c∧0≤c:=⟨_,rfl,by unfold aF;rw [if_neg (by omega)];split <;> omega⟩
   rw [hc]
   have hj1:j<256:=(Nat.pow_lt_pow_iff_right (by decide:1<2)).1 (Nat.lt_of_le_of_lt hlt HK.out)
   have HLT:=hid hlt
   clear hc hlt
   obtain ⟨⟨cT0,cT1⟩,fT0,fT1⟩:=HS1.out.f2 0 w1.heap.size 38 (.bool t2) (.slice p2 l2 k2) rfl
   go_wp2_with fail
   clear cT0 cT1 fT0 fT1
   refine (Rx.Ib (HS1.out.get (f:=.z (.agg #[.bool t2,.slice p2 l2 k2]) ((2 ^ j:Nat):Int)) 0 rfl) (HS1.out.get (f:=.z (.agg #[.bool t2,.slice p2 l2 k2]) ((2 ^ j:Nat):Int)) 0 rfl) (by rw [Int.natAbs_natCast];exact Nat.lt_of_le_of_lt HP.out (by rw [show (2:Nat) ^ 256=B64 ^ 4 by decide +kernel];exact Nat.pow_lt_pow_right (by decide) (by decide))) (by rw [Int.natAbs_natCast];exact Nat.lt_of_le_of_lt HP.out (by rw [show (2:Nat) ^ 256=B64 ^ 4 by decide +kernel];exact Nat.pow_lt_pow_right (by decide) (by decide))) HE1.out).mono ?_
   rintro e w5 ⟨v5,rfl,hz5,hB5⟩
   have hS5:=hid (HS1.out.call hB5)
   clear hB5 HS1
   obtain ⟨t5,p5,l5,k5,rfl⟩:=hz5.open
   rw [show ((2 ^ j:Nat):Int)+((2 ^ j:Nat):Int)=((2 ^ (j+1):Nat):Int) by rw [Nat.pow_succ];omega] at hz5
   have hS6:=hid (hS5.out.fact (.z (.agg #[.bool t5,.slice p5 l5 k5]) ((2 ^ (j+1):Nat):Int)) hz5)
   clear hS5 hz5
   obtain ⟨⟨cT0,cT1⟩,fT0,fT1⟩:=hS6.out.f2 0 w1.heap.size 38 (.bool t2) (.slice p2 l2 k2) rfl
   go_wp2_with fail
   clear cT0 cT1 fT0 fT1
   have hJ:=hid ((((hS6.out).store (b:=⟨w1.heap.size,38,[.bool t2,.slice p2 l2 k2]⟩) 0 0 (.bool t5) rfl rfl).store (b:=⟨w1.heap.size,38,[.bool t5,.slice p2 l2 k2]⟩) 0 1 (.slice p5 l5 k5) rfl rfl).as [⟨w1.heap.size,38,[.bool t5,.slice p5 l5 k5]⟩,⟨w.heap.size,38,[.bool t,.slice p l k]⟩] rfl)
   clear hS6
   go_roundw
   case rel=>exact ⟨j+1,t5,p5,l5,k5,by go_num,by omega,fun _=>by rw [Nat.add_sub_cancel];exact HLT.out,⟨hJ.out.bel,hJ.out.box,hJ.out.get (f:=.z (.agg #[.bool t5,.slice p5 l5 k5]) ((2 ^ (j+1):Nat):Int)) 0 rfl,hJ.out.get (f:=.l 0 (.slice p l k) xs) 2 rfl,trivial⟩⟩
   case measure=>simp [intOf];omega
  ·have hc:aF n (2 ^ j) = -1:=by unfold aF;rw [if_pos (by omega)]
   rw [hc]
   have HLT:=hid hlt
   clear hc hlt
   go_wp2
   go_ret
   refine ⟨j,rfl,⟨fun h0=>?_,fun h0=>⟨?_,?_,?_⟩⟩,HS1.out.bel⟩
   ·rcases Nat.eq_zero_or_pos j with h | h
    ·exact h
    ·have:=HJ.out h;have:=Nat.two_pow_pos (j - 1);omega
   ·rcases Nat.eq_zero_or_pos j with h | h
    ·have:=HLT.out;rw [h] at this;simp at this;omega
    ·exact h
   ·rcases Nat.eq_zero_or_pos j with h | h
    ·have:=HLT.out;rw [h] at this;simp at this;omega
    ·exact HJ.out h
   ·have:=HLT.out;omega
end Z4
end Go.Proofs.YtcglmmbgoonjnaaGreatDoor
