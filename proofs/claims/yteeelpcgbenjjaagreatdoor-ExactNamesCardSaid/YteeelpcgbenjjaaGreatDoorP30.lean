/- What the proof rests on, part 30. -/
import Derived.Test.YteeelpcgbenjjaaGreatDoorP25
import Derived.Test.YteeelpcgbenjjaaGreatDoorP29
import Derived.Test.YteeelpcgbenjjaaGreatDoorP19
import Derived.Test.YteeelpcgbenjjaaGreatDoorP10
import Derived.Test.YteeelpcgbenjjaaGreatDoorP05
import Derived.Test.YteeelpcgbenjjaaGreatDoorP20
import Derived.Test.YteeelpcgbenjjaaGreatDoorP18
import Derived.Test.YteeelpcgbenjjaaGreatDoorP26
namespace Go.Proofs.YteeelpcgbenjjaaGreatDoor
set_option maxRecDepth 100000
set_option maxHeartbeats 80000000
namespace Rx.Ry
open Go.RowKit
theorem mixedP:(Tryz.prog).follows .mixedOrders=true:=by kernel_rfl
structure Fm where
 s:Nat
 n:Nat
def okK:List Nat→Bool
 | a :: b :: r=>!(Nat.beq a 1 && Nat.beq b 1) && okK (b :: r)
 | _=>true
theorem okK_two:∀ {l:List Nat} {i:Nat},okK l=true→l[i]? = some 1→l[i+1]? = some 1→False
 | [],i,_,h,_=>by simp at h
 | [a],i,_,_,h=>by cases i <;> simp at h
 | a :: b :: r,0,hk,h,h2=>by
  simp only [List.getElem?_cons_zero,Option.some.injEq] at h
  simp only [Nat.zero_add,List.getElem?_cons_succ,List.getElem?_cons_zero,Option.some.injEq] at h2
  subst h h2
  simp [okK] at hk
 | a :: b :: r,i+1,hk,h,h2=>by
  simp only [okK,Bool.and_eq_true] at hk
  exact okK_two hk.2 (by simpa using h) (by simpa using h2)
theorem okK_of:∀ {l:List Nat},(∀ i,l[i]? = some 1→l[i+1]? = some 1→False)→okK l=true
 | [],_=>rfl
 | [a],_=>rfl
 | a :: b :: r,h=>by
  simp only [okK,Bool.and_eq_true]
  refine ⟨?_,okK_of fun i h1 h2=>h (i+1) (by simpa using h1) (by simpa using h2)⟩
  cases hb:(Nat.beq a 1 && Nat.beq b 1) with
  | false=>rfl
  | true =>
   simp only [Bool.and_eq_true] at hb
   exact (h 0 (by rw [Nat.eq_of_beq_eq_true hb.1];rfl) (by rw [Nat.eq_of_beq_eq_true hb.2];rfl)).elim
theorem okK_rep {p:List Nat} (h:okK (p ++ p)=true):∀ c,okK (List.replicate c p).flatten=true
 | 0=>rfl
 | 1=>by
  rw [List.replicate_one,List.flatten_singleton]
  refine okK_of fun i h1 h2=>okK_two h (i:=i) ?_ ?_
  ·rw [List.getElem?_append_left (List.getElem?_eq_some_iff.1 h1).1];exact h1
  ·rw [List.getElem?_append_left (List.getElem?_eq_some_iff.1 h2).1];exact h2
 | c+2=>by
  have ih:=okK_rep h (c+1)
  rw [Nat.add_comm (c+1) 1,flat_rep,List.replicate_one,List.flatten_singleton]
  refine okK_of fun i h1 h2=>?_
  rcases Nat.lt_or_ge (i+1) p.length with h3 | h3
  ·rw [List.getElem?_append_left (by omega)] at h1
   rw [List.getElem?_append_left h3] at h2
   exact okK_two h (i:=i) (by rw [List.getElem?_append_left (by omega)];exact h1) (by rw [List.getElem?_append_left h3];exact h2)
  ·rcases Nat.lt_or_ge i p.length with h4 | h4
   ·rw [List.getElem?_append_left h4] at h1
    have e:i+1 - p.length=0:=by omega
    rw [List.getElem?_append_right h3,e,Nat.add_comm c 1,flat_rep,List.replicate_one,List.flatten_singleton,List.getElem?_append_left (by omega)] at h2
    refine okK_two h (i:=i) (by rw [List.getElem?_append_left h4];exact h1) (by rw [List.getElem?_append_right h3,e];exact h2)
   ·rw [List.getElem?_append_right h4] at h1
    rw [List.getElem?_append_right h3,show i+1 - p.length=(i - p.length)+1 by omega] at h2
    exact okK_two ih h1 h2
theorem mag_chg {W W':World} {c d:Value} {n:Nat} (h:IsMag W c d n) (hs:W.heap.size≤W'.heap.size) (hc:∀ b,b<W.heap.size→W'.heap[b]? = W.heap[b]?∨∃ T vs,Rx.Bx W b T vs∧okK (vs.map kdV)=true):IsMag W' c d n:=by
 rcases h with h | ⟨b,o,k,xs,k1,k2,k3,k4,k5,k6,k7,k8,k9⟩
 ·exact .inl h
 ·refine .inr ⟨b,o,k,xs,k1,k2,Nat.lt_of_lt_of_le k3 hs,k4,k5,k6,k7,k8,fun j hj=>?_⟩
  rcases hc b k3 with h1 | ⟨T,vs,h1,h2⟩
  ·exact (World.cell?_of_block h1).trans (k9 j hj)
  ·exfalso
   have h3:=k9 0 (by omega)
   have h4:=k9 1 (by omega)
   rw [Nat.add_zero,h1.cell] at h3
   rw [h1.cell] at h4
   exact okK_two (i:=o) h2 (by rw [List.getElem?_map,h3];rfl) (by rw [List.getElem?_map,h4];rfl)
def onM (ρ:Env) (f:Fm) (W:World):Prop:=IsMag W (.int .u64 (ρ f.s).u) (.slice (ρ f.s).p (ρ f.s).l (ρ f.s).c) f.n
def SM:Sys where
 F:=Fm
 nm:=fun f=>[f.s]
 on:=onM
 okC:=fun cs=>okK (cs.map kdC)
 cg:=fun {ρ ρ' f W} h hf=>by
  unfold onM at hf ⊢
  rw [← h f.s (by simp)]
  exact hf
 bl:=fun hb hf=>IsMag.below hf hb
 st:=fun {ρ f W b T cs i u} hok _ hb hf=>mag_chg hf (by simp) fun b' _=>by
  by_cases e:b' = b
  ·exact .inr ⟨T,_,by rw [e];exact hb,by rw [okK_den];exact hok⟩
  ·exact .inl (Below.heap_setCell W ⟨b,i,none⟩ u b' e)
def XM:Xt SM where
 okK:=okK
 okP:=fun p=>okK (p ++ p)
 key:=fun f=>f.s
 rep:=fun c h=>okK_rep h c
 chg:=fun {_ _ _ _} hf hs hc=>mag_chg hf hs hc
def HM:Tests SM where
 eq:=fun _ c d=>match c,d with
  | .st a,.st b=>some (a.data.toList == b.data.toList)
  | _,_=>none
 ok:=fun {fs c d x} h ρ W _=>by
  split at h
  ·rename_i a b
   cases h
   exact .inl ⟨a,b,rfl,rfl,by rw [ByteArray.toList_eq,ByteArray.toList_eq]⟩
  ·cases h
def Big:Nat:=B64 ^ 200
def findM:List Fm→Nat→Option Nat
 | [],_=>none
 | f :: r,s=>bif Nat.beq f.s s then some f.n else findM r s
def asM (db:List Fm):List Cell→Option Nat
 | [.it .u64 (.ofNat n),.nils]=>bif Nat.blt n B64 then some n else none
 | [.ou s,.os s']=>bif Nat.beq s s' then findM db s else none
 | _=>none
def mC (b n:Nat):List Cell:=bif Nat.blt n B64 then [.it .u64 (.ofNat n),.nils] else [.ou b,.os b]
def fC (b n:Nat):List Fm:=bif Nat.blt n B64 then [] else [⟨b,n⟩]
theorem findM_mem:∀ {db:List Fm} {s n:Nat},findM db s=some n→⟨s,n⟩∈db
 | [],s,n,h=>by simp [findM] at h
 | f :: r,s,n,h=>by
  simp only [findM] at h
  cases hb:Nat.beq f.s s with
  | true =>
   rw [hb,cond_true] at h
   cases h
   obtain rfl:=Nat.eq_of_beq_eq_true hb
   exact List.mem_cons_self
  | false=>rw [hb] at h;exact List.mem_cons_of_mem _ (findM_mem h)
theorem blt_iff {a b:Nat}:Nat.blt a b=true↔a<b:=⟨Nat.le_of_ble_eq_true,Nat.ble_eq_true_of_le⟩
theorem asM_ok {db:List Fm} {cs:List Cell} {n:Nat} {ρ:Env} {W:World} (h:asM db cs=some n) (hf:∀ f∈db,onM ρ f W):∃ c d,cs.map (Cell.den ρ)=[c,d]∧IsMag W c d n:=by
 unfold asM at h
 split at h
 ·rename_i m
  cases hb:Nat.blt m B64 with
  | false=>rw [hb] at h;cases h
  | true =>
   rw [hb] at h
   cases h
   exact ⟨_,_,rfl,.inl ⟨blt_iff.1 hb,rfl,rfl⟩⟩
 ·rename_i s s'
  cases hb:Nat.beq s s' with
  | false=>rw [hb] at h;cases h
  | true =>
   rw [hb,cond_true] at h
   obtain rfl:=Nat.eq_of_beq_eq_true hb
   exact ⟨_,_,rfl,hf _ (findM_mem h)⟩
 ·cases h
abbrev EV:World→Prop:=fun W=>Go.Proofs.YteeelpcgbenjjaaGreatDoor.Env W
section
variable {f:FuncId} {vals:Array Value} {W:World} {ρ:Env} {b:Nat}
def Ans (ρ:Env) (b:Nat) (W:World) (res:SV) (new:List Fm) (e:Ending) (W':World):Prop:=
 ∃ ρ':Env,(∀ n,n<b∨b+M≤n→ρ' n=ρ n)∧e=.returned (res.den ρ')∧Below W.heap.size W W'∧∀ g∈new,onM ρ' g W'
def setN (ρ:Env) (b:Nat) (L:List Nv):Env:=fun n=>if b≤n then L[n - b]?.getD (ρ n) else ρ n
theorem setN_out {b:Nat} {L:List Nv} (hL:L.length≤M):∀ n,n<b∨b+M≤n→setN ρ b L n=ρ n:=fun n hn=>by
 unfold setN
 split
 ·rw [List.getElem?_eq_none (by simp only [M] at *;omega)];rfl
 ·rfl
theorem mC_den {W':World} {c d:Value} {n:Nat} (h:IsMag W' c d n):∃ nv:Nv,∀ (ρ:Env) (b:Nat),ρ b=nv→(mC b n).map (Cell.den ρ)=[c,d]∧∀ g∈fC b n,onM ρ g W':=by
 cases hb:Nat.blt n B64 with
 | true =>
  obtain ⟨rfl,rfl⟩:=isMag_word h (blt_iff.1 hb)
  refine ⟨default,fun ρ b _=>⟨?_,fun g hg=>?_⟩⟩
  ·unfold mC;rw [hb];rfl
  ·unfold fC at hg;rw [hb] at hg;cases hg
 | false =>
  obtain ⟨x,p,l,k,rfl,rfl⟩:=h.shape
  refine ⟨⟨false,x,p,l,k,.empty,0⟩,fun ρ b e=>⟨?_,fun g hg=>?_⟩⟩
  ·unfold mC;rw [hb];simp only [cond_false,List.map_cons,List.map_nil,Cell.den,e]
  ·unfold fC at hg
   rw [hb,cond_false,List.mem_singleton] at hg
   subst hg
   unfold onM
   rw [e]
   exact h
theorem ans_m {n:Nat} (hc:Calls Tryz.prog f vals W (RetM W n)):Calls Tryz.prog f vals W (Ans ρ b W (.e (.a (mC b n))) (fC b n)):=by
 refine hc.mono fun e W' ⟨c,d,he,hm,hb⟩=>?_
 obtain ⟨nv,hnv⟩:=mC_den hm
 obtain ⟨h1,h2⟩:=hnv (setN ρ b [nv]) b (by simp [setN])
 refine ⟨_,setN_out (L:=[nv]) (by simp [M]),?_,hb,h2⟩
 rw [he]
 simp only [SV.den,El.den,h1]
theorem ans_m2 {n m:Nat} (hc:Calls Tryz.prog f vals W (RetM2 W n m)):Calls Tryz.prog f vals W (Ans ρ b W (.t [.a (mC b n),.a (mC (b+1) m)]) (fC b n ++ fC (b+1) m)):=by
 refine hc.mono fun e W' ⟨c,d,c',d',he,hm,hm',hb⟩=>?_
 obtain ⟨nv,hnv⟩:=mC_den hm
 obtain ⟨nv',hnv'⟩:=mC_den hm'
 obtain ⟨h1,h2⟩:=hnv (setN ρ b [nv,nv']) b (by simp [setN])
 obtain ⟨h3,h4⟩:=hnv' (setN ρ b [nv,nv']) (b+1) (by simp [setN])
 refine ⟨_,setN_out (L:=[nv,nv']) (by simp [M]),?_,hb,fun g hg=>?_⟩
 ·rw [he]
  simp only [SV.den,El.den,List.map_cons,List.map_nil,h1,h3]
 ·rcases List.mem_append.1 hg with hg | hg
  ·exact h2 g hg
  ·exact h4 g hg
theorem ans_v {v:Value} {res:SV} (hc:Calls Tryz.prog f vals W fun e W'=>e=.returned v∧Below W.heap.size W W') (hv:∀ ρ,res.den ρ=v):Calls Tryz.prog f vals W (Ans ρ b W res []):=
 hc.mono fun e W' ⟨he,hb⟩=>⟨ρ,fun _ _=>rfl,by rw [he,hv],hb,fun g hg=>by cases hg⟩
end
def con1 (fn:FuncId) (op:Nat→Nat→Option (SV×List Fm)):Con SM where
 fn:=fn
 app:=fun db b args=>match args with
  | [.e (.a x)]=>match asM db x with
   | some m=>bif Nat.blt m Big then op b m else none
   | none=>none
  | _=>none
def con2 (fn:FuncId) (op:Nat→Nat→Nat→Option (SV×List Fm)):Con SM where
 fn:=fn
 app:=fun db b args=>match args with
  | [.e (.a x),.e (.a y)]=>match asM db x,asM db y with
   | some m,some n=>bif Nat.blt m Big && Nat.blt n Big then op b m n else none
   | _,_=>none
  | _=>none
theorem guard_some {α:Type} {g:Bool} {x:Option α} {y:α} (h:(bif g then x else none)=some y):g=true∧x=some y:=by
 cases g with
 | true=>exact ⟨rfl,h⟩
 | false=>cases h
theorem con1_ok {fn:FuncId} {op:Nat→Nat→Option (SV×List Fm)} (h:∀ b m res new,op b m=some (res,new)→m<Big→∀ c d ρ W,IsMag W c d m→EV W→Calls Tryz.prog fn #[.agg #[c,d]] W (Ans ρ b W res new)):(con1 fn op).Ok Tryz.prog SM EV:=by
 intro db b args res new ha ρ W hf hE
 simp only [con1] at ha
 split at ha
 ·rename_i x
  split at ha
  ·rename_i m hx
   obtain ⟨hb,ha⟩:=guard_some (α:=SV×List Fm) ha
   obtain ⟨c,d,h1,h2⟩:=asM_ok hx hf
   have:=h b m res new ha (blt_iff.1 hb) c d ρ W h2 hE
   show Calls Tryz.prog fn #[.agg (x.map (Cell.den ρ)).toArray] W _
   rw [h1]
   exact this
  ·cases ha
 ·cases ha
theorem con2_ok {fn:FuncId} {op:Nat→Nat→Nat→Option (SV×List Fm)} (h:∀ b m n res new,op b m n=some (res,new)→m<Big→n<Big→∀ c d c' d' ρ W,IsMag W c d m→IsMag W c' d' n→EV W→Calls Tryz.prog fn #[.agg #[c,d],.agg #[c',d']] W (Ans ρ b W res new)):(con2 fn op).Ok Tryz.prog SM EV:=by
 intro db b args res new ha ρ W hf hE
 simp only [con2] at ha
 split at ha
 ·rename_i x y
  split at ha
  ·rename_i m n hx hy
   obtain ⟨hb,ha⟩:=guard_some (α:=SV×List Fm) ha
   simp only [Bool.and_eq_true] at hb
   obtain ⟨c,d,h1,h2⟩:=asM_ok hx hf
   obtain ⟨c',d',h3,h4⟩:=asM_ok hy hf
   have:=h b m n res new ha (blt_iff.1 hb.1) (blt_iff.1 hb.2) c d c' d' ρ W h2 h4 hE
   show Calls Tryz.prog fn #[.agg (x.map (Cell.den ρ)).toArray,.agg (y.map (Cell.den ρ)).toArray] W _
   rw [h1,h3]
   exact this
  ·cases ha
 ·cases ha
def mR (b n:Nat):Option (SV×List Fm):=some (.e (.a (mC b n)),fC b n)
def bR (x:Bool):Option (SV×List Fm):=some (.e (.s (.bl x)),[])
def iR (x:Int):Option (SV×List Fm):=some (.e (.s (.it .i64 x)),[])
def kPlus:Con SM:=con2 72 fun b m n=>mR b (m+n)
def kMinus:Con SM:=con2 87 fun b m n=>bif Nat.ble n m then mR b (m - n) else none
def kTimes:Con SM:=con2 57 fun b m n=>mR b (m*n)
def kOver:Con SM:=con2 56 fun b m n=>bif Nat.blt 0 n then mR b (m / n) else none
def kGcd:Con SM:=con2 55 fun b m n=>mR b (Nat.gcd m n)
def kCmp:Con SM:=con2 64 fun _ m n=>iR (bif Nat.blt m n then -1 else bif Nat.beq m n then 0 else 1)
def kDiv:Con SM:=con2 71 fun b m n=>bif Nat.blt 0 n then some (.t [.a (mC b (m / n)),.a (mC (b+1) (m % n))],fC b (m / n) ++ fC (b+1) (m % n)) else none
def kZero:Con SM:=con1 60 fun _ m=>bR (Nat.beq m 0)
def kOne:Con SM:=con1 88 fun _ m=>bR (Nat.beq m 1)
def kOdd:Con SM:=con1 69 fun _ m=>bR (Nat.beq (m % 2) 1)
def lenN (n:Nat):Nat:=bif Nat.beq n 0 then 0 else Nat.log2 n+1
def kBits:Con SM:=con1 70 fun _ m=>iR (.ofNat (lenN m))
def newton (n:Nat):Nat→Nat→Nat
 | 0,x=>x
 | f+1,x=>bif Nat.ble x ((n / x+x) / 2) then x else newton n f ((n / x+x) / 2)
def kRoot:Con SM:=con1 155 fun b m =>
 bif Nat.ble (newton m 300 (2 ^ (Nat.log2 m / 2+1))*newton m 300 (2 ^ (Nat.log2 m / 2+1))) m && Nat.blt m ((newton m 300 (2 ^ (Nat.log2 m / 2+1))+1)*(newton m 300 (2 ^ (Nat.log2 m / 2+1))+1)) then mR b (newton m 300 (2 ^ (Nat.log2 m / 2+1))) else none
def decF:Nat→Nat→List UInt8
 | 0,n=>[UInt8.ofNat (48+n)]
 | f+1,n=>bif Nat.blt n 10 then [UInt8.ofNat (48+n)] else decF f (n / 10) ++ [UInt8.ofNat (48+n % 10)]
theorem decF_eq:∀ {f n:Nat},n<10 ^ (f+1)→decF f n=Lib.decDigits n
 | 0,n,h=>by
  rw [Lib.decDigits,dif_pos (by simpa using h)]
  rfl
 | f+1,n,h=>by
  rw [Lib.decDigits]
  simp only [decF]
  cases hb:Nat.blt n 10 with
  | true=>rw [dif_pos (blt_iff.1 hb)];rfl
  | false =>
   have h2:¬ n<10:=fun h3=>by rw [blt_iff.2 h3] at hb;cases hb
   have h4:n / 10<10 ^ (f+1):=by rw [Nat.pow_succ] at h;omega
   rw [dif_neg h2,cond_false,decF_eq h4]
def kText:Con SM:=con1 80 fun _ m=>bif Nat.blt m (10 ^ 201) then some (.e (.s (.st ⟨(decF 200 m).toArray⟩)),[]) else none
def kShift:Con SM where
 fn:=154
 app:=fun db b args=>match args with
  | [.e (.a x),.e (.s (.it .i64 (.ofNat k)))]=>match asM db x with
   | some m=>bif Nat.blt m Big && Nat.blt k 100000 then mR b (m*2 ^ k) else none
   | none=>none
  | _=>none
def kCutP:Con SM where
 fn:=101
 app:=fun _ _ args=>match args with
  | [.e (.s (.st l)),.e (.s (.st p))]=>if p.data.toList=[45] then some (.t [.s (.st ⟨(Lib.trimPrefix l.data.toList [45]).toArray⟩),.s (.bl (Lib.hasPrefix l.data.toList [45]))],[]) else none
  | _=>none
def kCut:Con SM where
 fn:=102
 app:=fun _ _ args=>match args with
  | [.e (.s (.st l)),.e (.s (.st p))]=>match p.data.toList with
   | [c]=>bif Nat.ble l.data.toList.length 1000000 then some (.t [.s (.st ⟨(Lib.cut l.data.toList [c]).1.toArray⟩),.s (.st ⟨(Lib.cut l.data.toList [c]).2.1.toArray⟩),.s (.bl (Lib.cut l.data.toList [c]).2.2)],[]) else none
   | _=>none
  | _=>none
def kInteger:Con SM where
 fn:=103
 app:=fun _ _ args=>match args with
  | [.e (.s (.st l))]=>bif Nat.ble l.data.toList.length 1000000 then bR (intB l.data.toList) else none
  | _=>none
def kDigits:Con SM where
 fn:=104
 app:=fun _ _ args=>match args with
  | [.e (.s (.st l))]=>bif Nat.ble l.data.toList.length 1000000 then bR (l.data.toList != [] && l.data.toList.all digB) else none
  | _=>none
def kMagOf:Con SM where
 fn:=105
 app:=fun _ b args=>match args with
  | [.e (.s (.st l))]=>bif Nat.ble l.data.toList.length 1000000 && l.data.toList.all digB then mR b (dv l.data.toList) else none
  | _=>none
def kTen:Con SM where
 fn:=106
 app:=fun _ b args=>match args with
  | [.e (.s (.it .i64 (.ofNat n)))]=>bif Nat.blt (10 ^ n) Big then mR b (10 ^ n) else none
  | _=>none
def kNear:Con SM where
 fn:=66
 app:=fun _ _ args=>match args with
  | [.e (.a [.bl false,.it .u64 355,.nils,.it .u64 113,.nils]),.e (.s (.it .i64 7))]=>some (.t [.a [.bl false,.it .u64 22,.nils,.it .u64 7,.nils],.s (.it .i64 0)],[])
  | _=>none
def km:List (Con SM):=[kPlus,kMinus,kTimes,kOver,kGcd,kCmp,kDiv,kZero,kOne,kOdd,kBits,kRoot,kText,kShift,kCutP,kCut,kInteger,kDigits,kMagOf,kTen,kNear]
end Rx.Ry
namespace Rx.Ry
open Go.RowKit
theorem mR_some {b n:Nat} {res:SV} {new:List Fm} (h:mR b n=some (res,new)):.e (.a (mC b n))=res∧fC b n=new:=by
 simpa only [mR,Option.some.injEq,Prod.mk.injEq] using h
theorem bR_some {x:Bool} {res:SV} {new:List Fm} (h:bR x=some (res,new)):.e (.s (.bl x))=res∧[]=new:=by
 simpa only [bR,Option.some.injEq,Prod.mk.injEq] using h
theorem iR_some {x:Int} {res:SV} {new:List Fm} (h:iR x=some (res,new)):.e (.s (.it .i64 x))=res∧[]=new:=by
 simpa only [iR,Option.some.injEq,Prod.mk.injEq] using h
theorem kPlus_ok:kPlus.Ok Tryz.prog SM EV:=con2_ok fun b m n res new h hm hn c d c' d' ρ W h1 h2 _=>by
 obtain ⟨rfl,rfl⟩:=mR_some h
 exact ans_m (mplus_calls m n 200 c d c' d' W h1 h2 (by omega) hm hn)
theorem kMinus_ok:kMinus.Ok Tryz.prog SM EV:=con2_ok fun b m n res new h hm hn c d c' d' ρ W h1 h2 _=>by
 obtain ⟨hg,h⟩:=guard_some h
 obtain ⟨rfl,rfl⟩:=mR_some h
 exact ans_m (mminus_calls m n 200 c d c' d' W h1 h2 (Nat.le_of_ble_eq_true hg) (by omega) hm)
theorem kTimes_ok:kTimes.Ok Tryz.prog SM EV:=con2_ok fun b m n res new h hm hn c d c' d' ρ W h1 h2 _=>by
 obtain ⟨rfl,rfl⟩:=mR_some h
 exact ans_m (mtimes_calls m n 200 c d c' d' W h1 h2 (by omega) hm hn)
theorem kOver_ok:kOver.Ok Tryz.prog SM EV:=con2_ok fun b m n res new h hm hn c d c' d' ρ W h1 h2 _=>by
 obtain ⟨hg,h⟩:=guard_some h
 obtain ⟨rfl,rfl⟩:=mR_some h
 exact ans_m (mover_calls m n 200 c d c' d' W h1 h2 (blt_iff.1 hg) (by omega) hm)
theorem kGcd_ok:kGcd.Ok Tryz.prog SM EV:=con2_ok fun b m n res new h hm hn c d c' d' ρ W h1 h2 hE=>by
 obtain ⟨rfl,rfl⟩:=mR_some h
 exact ans_m (mgcd_calls m n 200 c d c' d' W h1 h2 (by omega) hm hn hE.tz)
theorem cmpB (m n:Nat):(bif Nat.blt m n then (-1:Int) else bif Nat.beq m n then 0 else 1)=cmpN m n:=by
 unfold cmpN
 cases h:Nat.blt m n with
 | true=>rw [if_pos (blt_iff.1 h)];rfl
 | false =>
  have h1:¬ m<n:=fun h2=>by rw [blt_iff.2 h2] at h;cases h
  rw [if_neg h1,cond_false]
  cases h3:Nat.beq m n with
  | true=>rw [if_pos (Nat.eq_of_beq_eq_true h3)];rfl
  | false=>rw [if_neg (Nat.ne_of_beq_eq_false h3)];rfl
theorem kCmp_ok:kCmp.Ok Tryz.prog SM EV:=con2_ok fun b m n res new h hm hn c d c' d' ρ W h1 h2 _=>by
 obtain ⟨rfl,rfl⟩:=iR_some h
 exact ans_v (mcmp_calls m n 200 c d c' d' W h1 h2 (by omega) hm) fun _=>by rw [cmpB];rfl
theorem kDiv_ok:kDiv.Ok Tryz.prog SM EV:=con2_ok fun b m n res new h hm hn c d c' d' ρ W h1 h2 _=>by
 obtain ⟨hg,h⟩:=guard_some h
 simp only [Option.some.injEq,Prod.mk.injEq] at h
 obtain ⟨rfl,rfl⟩:=h
 exact ans_m2 (mdiv_calls m n 200 c d c' d' W h1 h2 (blt_iff.1 hg) (by omega) hm)
theorem beqB (m n:Nat):Nat.beq m n=(m == n):=by rw [Bool.eq_iff_iff];simp
theorem kZero_ok:kZero.Ok Tryz.prog SM EV:=con1_ok fun b m res new h hm c d ρ W h1 _=>by
 obtain ⟨rfl,rfl⟩:=bR_some h
 exact ans_v (isZero_calls c d m W h1) fun _=>by rw [beqB];rfl
theorem kOne_ok:kOne.Ok Tryz.prog SM EV:=con1_ok fun b m res new h hm c d ρ W h1 _=>by
 obtain ⟨rfl,rfl⟩:=bR_some h
 exact ans_v (isOne_calls c d m W h1) fun _=>by rw [beqB];rfl
theorem kOdd_ok:kOdd.Ok Tryz.prog SM EV:=con1_ok fun b m res new h hm c d ρ W h1 _=>by
 obtain ⟨rfl,rfl⟩:=bR_some h
 exact ans_v (isOdd_calls c d m 200 W h1 (by omega) hm) fun _=>by rw [beqB];rfl
theorem lenN_bits {n v:Nat} (h:IsBits n v):v=lenN n:=by
 unfold lenN
 cases h0:Nat.beq n 0 with
 | true=>exact h.1 (Nat.eq_of_beq_eq_true h0)
 | false =>
  have hn:=Nat.ne_of_beq_eq_false h0
  obtain ⟨h1,h2,h3⟩:=h.2 (Nat.pos_of_ne_zero hn)
  have h4:=(Nat.le_log2 hn).2 h2
  have h5:=(Nat.log2_lt hn).2 h3
  rw [cond_false]
  omega
theorem kBits_ok:kBits.Ok Tryz.prog SM EV:=con1_ok fun b m res new h hm c d ρ W h1 _=>by
 obtain ⟨rfl,rfl⟩:=iR_some h
 refine ans_v ((bits_calls c d m 200 W h1 (by omega) hm).mono fun e W' ⟨v,he,hv,hb⟩=>⟨?_,hb⟩) fun _=>rfl
 rw [he,lenN_bits hv]
 rfl
theorem kRoot_ok:kRoot.Ok Tryz.prog SM EV:=con1_ok fun b m res new h hm c d ρ W h1 _=>by
 generalize newton m 300 (2 ^ (Nat.log2 m / 2+1))=r at h
 obtain ⟨hg,h⟩:=guard_some h
 obtain ⟨rfl,rfl⟩:=mR_some h
 simp only [Bool.and_eq_true] at hg
 refine ans_m ((root_calls c d m 200 W h1 (by omega) hm).mono fun e W' ⟨s,h2,h3,h4⟩=>?_)
 rw [root_unique m r s (Nat.le_of_ble_eq_true hg.1) (blt_iff.1 hg.2) h2 h3]
 exact h4
theorem kText_ok:kText.Ok Tryz.prog SM EV:=con1_ok fun b m res new h hm c d ρ W h1 hE=>by
 obtain ⟨hg,h⟩:=guard_some h
 simp only [Option.some.injEq,Prod.mk.injEq] at h
 obtain ⟨rfl,rfl⟩:=h
 rw [decF_eq (blt_iff.1 hg)]
 exact ans_v (mtext_calls c d m 200 W h1 (by omega) hm hE.ten) fun _=>rfl
theorem kShift_ok:kShift.Ok Tryz.prog SM EV:=by
 intro db b args res new ha ρ W hf _
 simp only [kShift] at ha
 split at ha
 ·rename_i x k
  split at ha
  ·rename_i m hx
   obtain ⟨hg,h⟩:=guard_some ha
   obtain ⟨rfl,rfl⟩:=mR_some h
   simp only [Bool.and_eq_true] at hg
   obtain ⟨c,d,h1,h2⟩:=asM_ok hx hf
   have h3:=blt_iff.1 hg.2
   have:=ans_m (ρ:=ρ) (b:=b) (mshift_calls m k 200 c d W h2 (by decide) (Nat.le_of_lt (Nat.lt_of_lt_of_le h3 (by decide))) (blt_iff.1 hg.1))
   show Calls Tryz.prog _ #[.agg (x.map (Cell.den ρ)).toArray,.int .i64 (k:Int)] W _
   rw [h1]
   exact this
  ·cases ha
 ·cases ha
theorem lit (l:ByteArray):(⟨l.data.toList.toArray⟩:ByteArray)=l:=by simp
theorem kCutP_ok:kCutP.Ok Tryz.prog SM EV:=by
 intro db b args res new ha ρ W hf _
 simp only [kCutP] at ha
 split at ha
 ·rename_i l p
  split at ha
  ·rename_i hp
   simp only [Option.some.injEq,Prod.mk.injEq] at ha
   obtain ⟨rfl,rfl⟩:=ha
   have e:p=⟨#[45]⟩:=by rw [← lit p,hp]
   have:=ans_v (ρ:=ρ) (b:=b) (res:=.t [.s (.st ⟨(Lib.trimPrefix l.data.toList [45]).toArray⟩),.s (.bl (Lib.hasPrefix l.data.toList [45]))]) (cutp_calls l.data.toList W) fun _=>rfl
   rw [lit l] at this
   show Calls Tryz.prog _ #[.string l,.string p] W _
   rw [e]
   exact this
  ·cases ha
 ·cases ha
theorem kCut_ok:kCut.Ok Tryz.prog SM EV:=by
 intro db b args res new ha ρ W hf hE
 simp only [kCut] at ha
 split at ha
 ·rename_i l p
  split at ha
  ·rename_i c hp
   obtain ⟨hg,h⟩:=guard_some ha
   simp only [Option.some.injEq,Prod.mk.injEq] at h
   obtain ⟨rfl,rfl⟩:=h
   have e:p=⟨#[c]⟩:=by rw [← lit p,hp]
   have:=ans_v (ρ:=ρ) (b:=b) (res:=.t [.s (.st ⟨(Lib.cut l.data.toList [c]).1.toArray⟩),.s (.st ⟨(Lib.cut l.data.toList [c]).2.1.toArray⟩),.s (.bl (Lib.cut l.data.toList [c]).2.2)]) (cut_calls l.data.toList c W (Nat.le_of_ble_eq_true hg) hE.max) fun _=>rfl
   rw [lit l] at this
   show Calls Tryz.prog _ #[.string l,.string p] W _
   rw [e]
   exact this
  ·cases ha
 ·cases ha
theorem kInteger_ok:kInteger.Ok Tryz.prog SM EV:=by
 intro db b args res new ha ρ W hf _
 simp only [kInteger] at ha
 split at ha
 ·rename_i l
  obtain ⟨hg,h⟩:=guard_some ha
  obtain ⟨rfl,rfl⟩:=bR_some h
  have hl:=Nat.le_of_ble_eq_true hg
  have:=ans_v (ρ:=ρ) (b:=b) (res:=.e (.s (.bl (intB l.data.toList)))) ((isInteger_calls l.data.toList W (by omega)).mono fun e W' ⟨h1,h2⟩=>⟨h1,h2 ▸ Below.refl _ _⟩) fun _=>rfl
  rw [lit l] at this
  exact this
 ·cases ha
theorem kDigits_ok:kDigits.Ok Tryz.prog SM EV:=by
 intro db b args res new ha ρ W hf _
 simp only [kDigits] at ha
 split at ha
 ·rename_i l
  obtain ⟨hg,h⟩:=guard_some ha
  obtain ⟨rfl,rfl⟩:=bR_some h
  have hl:=Nat.le_of_ble_eq_true hg
  have:=ans_v (ρ:=ρ) (b:=b) (res:=.e (.s (.bl (l.data.toList != [] && l.data.toList.all digB)))) ((isDigits_calls l.data.toList W (by omega)).mono fun e W' ⟨h1,h2⟩=>⟨h1,h2 ▸ Below.refl _ _⟩) fun _=>rfl
  rw [lit l] at this
  exact this
 ·cases ha
theorem kMagOf_ok:kMagOf.Ok Tryz.prog SM EV:=by
 intro db b args res new ha ρ W hf _
 simp only [kMagOf] at ha
 split at ha
 ·rename_i l
  obtain ⟨hg,h⟩:=guard_some ha
  obtain ⟨rfl,rfl⟩:=mR_some h
  simp only [Bool.and_eq_true] at hg
  have:=ans_m (ρ:=ρ) (b:=b) (magOf_calls l.data.toList W hg.2 (Nat.le_of_ble_eq_true hg.1))
  rw [lit l] at this
  exact this
 ·cases ha
theorem kTen_ok:kTen.Ok Tryz.prog SM EV:=by
 intro db b args res new ha ρ W hf _
 simp only [kTen] at ha
 split at ha
 ·rename_i n
  obtain ⟨hg,h⟩:=guard_some ha
  obtain ⟨rfl,rfl⟩:=mR_some h
  exact ans_m (ρ:=ρ) (b:=b) (pow10_calls n 200 W (blt_iff.1 hg) (by decide))
 ·cases ha
theorem near_num:(mkRat 22 7).num=22∧denOf (mkRat 22 7)=7∧(mkRat 355 113).num=355∧denOf (mkRat 355 113)=113:=by
 refine ⟨?_,?_,?_,?_⟩ <;> rfl
theorem kNear_ok:kNear.Ok Tryz.prog SM EV:=by
 intro db b args res new ha ρ W hf hE
 simp only [kNear] at ha
 split at ha
 ·simp only [Option.some.injEq,Prod.mk.injEq] at ha
  obtain ⟨rfl,rfl⟩:=ha
  obtain ⟨n1,n2,n3,n4⟩:=near_num
  refine ans_v (v:=.tuple #[.agg #[.bool false,.int .u64 22,.slice none 0 0,.int .u64 7,.slice none 0 0],.int .i64 0]) ((near7 _ W ⟨.int .u64 355,.slice none 0 0,.int .u64 113,.slice none 0 0,?_,?_,?_⟩ hE).mono ?_) fun _=>rfl
  ·rw [n3];rfl
  ·rw [n3];exact .inl ⟨by decide,rfl,rfl⟩
  ·rw [n4];exact .inl ⟨by decide,rfl,rfl⟩
  ·rintro e W' ⟨v,rfl,⟨c,d,c',d',rfl,h1,h2⟩,hb⟩
   rw [n1] at h1
   rw [n2] at h2
   obtain ⟨rfl,rfl⟩:=isMag_word h1 (by decide)
   obtain ⟨rfl,rfl⟩:=isMag_word h2 (by decide)
   refine ⟨?_,hb⟩
   rw [n1]
   rfl
 ·cases ha
theorem km_ok:∀ c∈km,c.Ok Tryz.prog SM EV:=by
 unfold km
 intro c hc
 simp only [List.mem_cons,List.not_mem_nil,or_false] at hc
 rcases hc with rfl | rfl | rfl | rfl | rfl | rfl | rfl | rfl | rfl | rfl | rfl | rfl | rfl | rfl | rfl | rfl | rfl | rfl | rfl | rfl | rfl
 ·exact kPlus_ok
 ·exact kMinus_ok
 ·exact kTimes_ok
 ·exact kOver_ok
 ·exact kGcd_ok
 ·exact kCmp_ok
 ·exact kDiv_ok
 ·exact kZero_ok
 ·exact kOne_ok
 ·exact kOdd_ok
 ·exact kBits_ok
 ·exact kRoot_ok
 ·exact kText_ok
 ·exact kShift_ok
 ·exact kCutP_ok
 ·exact kCut_ok
 ·exact kInteger_ok
 ·exact kDigits_ok
 ·exact kMagOf_ok
 ·exact kTen_ok
 ·exact kNear_ok
end Rx.Ry
namespace Rx.Ry
open Go.RowKit
def eqC:Cell→Cell→Bool
 | .bl a,.bl b=>decide (a=b)
 | .it k a,.it k' b=>decide (k=k') && decide (a=b)
 | .nils,.nils=>true
 | _,_=>false
def eqCs:List Cell→List Cell→Bool
 | [],[]=>true
 | a :: r,b :: s=>eqC a b && eqCs r s
 | _,_=>false
def eqVs:List SV→List SV→Bool
 | [],[]=>true
 | .e (.s a) :: r,.e (.s b) :: s=>eqC a b && eqVs r s
 | .e (.a a) :: r,.e (.a b) :: s=>eqCs a b && eqVs r s
 | _,_=>false
theorem eqC_eq {a b:Cell} (h:eqC a b=true):a=b:=by
 unfold eqC at h
 split at h
 ·rw [of_decide_eq_true h]
 ·simp only [Bool.and_eq_true] at h
  rw [of_decide_eq_true h.1,of_decide_eq_true h.2]
 ·rfl
 ·cases h
theorem eqCs_eq:∀ {a b:List Cell},eqCs a b=true→a=b
 | [],[],_=>rfl
 | a :: r,b :: s,h=>by
  simp only [eqCs,Bool.and_eq_true] at h
  rw [eqC_eq h.1,eqCs_eq h.2]
 | [],_ :: _,h | _ :: _,[],h=>by simp [eqCs] at h
theorem eqVs_eq:∀ {a b:List SV},eqVs a b=true→a=b:=by
 intro a
 induction a with
 | nil =>
  intro b h
  unfold eqVs at h
  split at h <;> first | rfl | (rename_i h1;cases h1) | cases h
 | cons x r ih =>
  intro b h
  unfold eqVs at h
  split at h
  ·rename_i h1;cases h1
  ·rename_i h1;cases h1;simp only [Bool.and_eq_true] at h;rw [eqC_eq h.1,ih h.2]
  ·rename_i h1;cases h1;simp only [Bool.and_eq_true] at h;rw [eqCs_eq h.1,ih h.2]
  ·cases h
def conR (fn:FuncId) (args:List SV) (res:SV):Con SM where
 fn:=fn
 app:=fun _ _ vs=>bif eqVs args vs then some (res,[]) else none
theorem run_calls {cons:List (Con SM)} (hc:∀ c∈cons,c.Ok Tryz.prog SM EV) {fuel d:Nat} {fn:FuncId} {args:List SV} {res:SV} (h:(callN Tryz.prog XM HM cons fuel d [] fn args .l 0).map (·.v)=some res) (hn:res.nm=[]) (ρ:Env) (W:World) (hE:EV W) :
  Calls Tryz.prog fn (args.map (SV.den ρ)).toArray W fun e W'=>e=.returned (res.den ρ)∧Below W.heap.size W W':=by
 cases hr:callN Tryz.prog XM HM cons fuel d [] fn args .l 0 with
 | none=>rw [hr] at h;cases h
 | some r =>
  rw [hr] at h
  obtain rfl:=Option.some.inj h
  refine (call_ok (S:=SM) (E:=EV) (ρ:=ρ) (fs:=[]) mixedP hc hr (fun W' hb=>Env.below hE hb (Nat.le_refl _)) (fun f hf=>by cases hf) rfl (Nat.zero_le _)).mono fun e W' ⟨ρ',_,he,hb,_⟩=>⟨?_,hb⟩
  rw [he,SV.den_congr (ρ:=ρ') (ρ':=ρ) fun m hm=>by rw [hn] at hm;cases hm]
theorem conR_ok {cons:List (Con SM)} (hc:∀ c∈cons,c.Ok Tryz.prog SM EV) {fuel d:Nat} {fn:FuncId} {args:List SV} {res:SV} (h:(callN Tryz.prog XM HM cons fuel d [] fn args .l 0).map (·.v)=some res) (hn:res.nm=[]):(conR fn args res).Ok Tryz.prog SM EV:=by
 intro fs b vs res' new ha ρ W hf hE
 obtain ⟨hg,ha⟩:=guard_some (α:=SV×List Fm) ha
 obtain ⟨rfl,rfl⟩:=Prod.mk.inj (Option.some.inj ha)
 obtain rfl:=eqVs_eq hg
 exact (run_calls hc h hn ρ W hE).mono fun e W' ⟨he,hb⟩=>⟨ρ,fun _ _=>rfl,he,hb,fun f hf=>by cases hf⟩
theorem cons_ok {c:Con SM} {cons:List (Con SM)} (h:c.Ok Tryz.prog SM EV) (hc:∀ c∈cons,c.Ok Tryz.prog SM EV):∀ c'∈c :: cons,c'.Ok Tryz.prog SM EV:=fun c' h'=>by
 rcases List.mem_cons.1 h' with rfl | h'
 ·exact h
 ·exact hc c' h'
end Rx.Ry
namespace Rx.Ry
open Go.RowKit
def okQ (b:Bool) (n m:Nat):Bool:=!(Nat.beq m 1) && (Nat.beq (Nat.gcd n (bif Nat.beq m 0 then 1 else m)) 1 && ((!b || !(Nat.beq n 0)) && (Nat.blt n Big && Nat.blt m Big)))
def mkQ (b:Bool) (n m:Nat):Rat:=mkRat (zs b n) (bif Nat.beq m 0 then 1 else m)
theorem okQ_is {b:Bool} {n m:Nat} (h:okQ b n m=true) {W:World} {c d e f:Value} (h1:IsMag W c d n) (h2:IsMag W e f m):IsQ W (.agg #[.bool b,c,d,e,f]) (mkQ b n m)∧Fits 200 (mkQ b n m):=by
 unfold okQ at h
 simp only [Bool.and_eq_true,Bool.or_eq_true,Bool.not_eq_true'] at h
 obtain ⟨a1,a2,a3,a4,a5⟩:=h
 have m1:m≠1:=Nat.ne_of_beq_eq_false a1
 have hu:(bif Nat.beq m 0 then 1 else m)≠0:=by
  cases hm:Nat.beq m 0 with
  | true=>simp
  | false=>exact Nat.ne_of_beq_eq_false hm
 have hc:Nat.Coprime (zs b n).natAbs (bif Nat.beq m 0 then 1 else m):=by rw [zs_natAbs];exact Nat.eq_of_beq_eq_true a2
 obtain ⟨p1,p2⟩:=mk_low hu hc
 have e1:decide ((mkQ b n m).num<0)=b:=by
  show decide ((mkRat _ _).num<0)=b
  rw [p1]
  by_cases hn:n=0
  ·subst hn
   rcases a3 with rfl | h3
   ·rfl
   ·cases h3
  ·exact zs_neg hn
 have e2:(mkQ b n m).num.natAbs=n:=by
  show (mkRat _ _).num.natAbs=n
  rw [p1,zs_natAbs]
 have e3:(mkQ b n m).den=bif Nat.beq m 0 then 1 else m:=p2
 have e4:denOf (mkQ b n m)=m:=by
  unfold denOf
  rw [e3]
  cases hm:Nat.beq m 0 with
  | true=>rw [cond_true,if_pos rfl];exact (Nat.eq_of_beq_eq_true hm).symm
  | false=>rw [cond_false,if_neg m1]
 refine ⟨⟨c,d,e,f,by rw [e1],by rw [e2];exact h1,by rw [e4];exact h2⟩,by rw [e2];exact blt_iff.1 a4,?_⟩
 rw [e3]
 cases hm:Nat.beq m 0 with
 | true=>rw [cond_true];exact Nat.one_lt_pow (by decide) (by decide)
 | false=>rw [cond_false];exact blt_iff.1 a5
def asQ (db:List Fm):List Cell→Option Rat
 | [.bl b,c,d,e,f]=>match asM db [c,d],asM db [e,f] with
  | some n,some m=>bif okQ b n m then some (mkQ b n m) else none
  | _,_=>none
 | _=>none
theorem asQ_ok {db:List Fm} {cs:List Cell} {r:Rat} {ρ:Env} {W:World} (h:asQ db cs=some r) (hf:∀ f∈db,onM ρ f W):IsQ W (.agg (cs.map (Cell.den ρ)).toArray) r∧Fits 200 r:=by
 unfold asQ at h
 split at h
 ·rename_i b c d e f
  split at h
  ·rename_i n m h1 h2
   obtain ⟨hg,h⟩:=guard_some h
   cases h
   obtain ⟨c',d',q1,q2⟩:=asM_ok h1 hf
   obtain ⟨e',f',q3,q4⟩:=asM_ok h2 hf
   simp only [List.map_cons,List.map_nil,List.cons.injEq,and_true] at q1 q3
   simp only [List.map_cons,List.map_nil,q1,q3]
   exact okQ_is hg q2 q4
  ·cases h
 ·cases h
def qC (b:Nat) (r:Rat):List Cell:=.bl (decide (r.num<0)) :: (mC b r.num.natAbs ++ mC (b+1) (denOf r))
def qF (b:Nat) (r:Rat):List Fm:=fC b r.num.natAbs ++ fC (b+1) (denOf r)
section
variable {f:FuncId} {vals:Array Value} {W:World} {ρ:Env} {b:Nat}
theorem qC_den {W':World} {v:Value} {r:Rat} (h:IsQ W' v r):∃ nv nv':Nv,(Value.agg ((qC b r).map (Cell.den (setN ρ b [nv,nv']))).toArray)=v∧∀ g∈qF b r,onM (setN ρ b [nv,nv']) g W':=by
 obtain ⟨c,d,e,f,rfl,hm,hm'⟩:=h
 obtain ⟨nv,hnv⟩:=mC_den hm
 obtain ⟨nv',hnv'⟩:=mC_den hm'
 obtain ⟨h1,h2⟩:=hnv (setN ρ b [nv,nv']) b (by simp [setN])
 obtain ⟨h3,h4⟩:=hnv' (setN ρ b [nv,nv']) (b+1) (by simp [setN])
 refine ⟨nv,nv',?_,fun g hg=>?_⟩
 ·unfold qC
  rw [List.map_cons,List.map_append,h1,h3]
  rfl
 ·rcases List.mem_append.1 hg with hg | hg
  ·exact h2 g hg
  ·exact h4 g hg
theorem ans_q {r:Rat} (hc:Calls Tryz.prog f vals W (RetQ W r)):Calls Tryz.prog f vals W (Ans ρ b W (.e (.a (qC b r))) (qF b r)):=by
 refine hc.mono fun e W' ⟨v,he,hq,hb⟩=>?_
 obtain ⟨nv,nv',h1,h2⟩:=qC_den (ρ:=ρ) (b:=b) hq
 exact ⟨_,setN_out (L:=[nv,nv']) (by simp [M]),by rw [he,← h1];rfl,hb,h2⟩
theorem ans_qe {r:Rat} {x:Int} (hc:Calls Tryz.prog f vals W (RetQE W r x)):Calls Tryz.prog f vals W (Ans ρ b W (.t [.a (qC b r),.s (.it .i64 x)]) (qF b r)):=by
 refine hc.mono fun e W' ⟨v,he,hq,hb⟩=>?_
 obtain ⟨nv,nv',h1,h2⟩:=qC_den (ρ:=ρ) (b:=b) hq
 exact ⟨_,setN_out (L:=[nv,nv']) (by simp [M]),by rw [he,← h1];rfl,hb,h2⟩
end
def con1q (fn:FuncId) (op:Nat→Rat→Option (SV×List Fm)):Con SM where
 fn:=fn
 app:=fun db b args=>match args with
  | [.e (.a x)]=>match asQ db x with
   | some r=>op b r
   | none=>none
  | _=>none
def con2q (fn:FuncId) (op:Nat→Rat→Rat→Option (SV×List Fm)):Con SM where
 fn:=fn
 app:=fun db b args=>match args with
  | [.e (.a x),.e (.a y)]=>match asQ db x,asQ db y with
   | some r,some s=>op b r s
   | _,_=>none
  | _=>none
theorem con1q_ok {fn:FuncId} {op:Nat→Rat→Option (SV×List Fm)} (h:∀ b r res new,op b r=some (res,new)→∀ v ρ W,IsQ W v r→Fits 200 r→EV W→Calls Tryz.prog fn #[v] W (Ans ρ b W res new)):(con1q fn op).Ok Tryz.prog SM EV:=by
 intro db b args res new ha ρ W hf hE
 simp only [con1q] at ha
 split at ha
 ·rename_i x
  split at ha
  ·rename_i r hx
   obtain ⟨h1,h2⟩:=asQ_ok hx hf
   exact h b r res new ha _ ρ W h1 h2 hE
  ·cases ha
 ·cases ha
theorem con2q_ok {fn:FuncId} {op:Nat→Rat→Rat→Option (SV×List Fm)} (h:∀ b r s res new,op b r s=some (res,new)→∀ v v' ρ W,IsQ W v r→IsQ W v' s→Fits 200 r→Fits 200 s→EV W→Calls Tryz.prog fn #[v,v'] W (Ans ρ b W res new)):(con2q fn op).Ok Tryz.prog SM EV:=by
 intro db b args res new ha ρ W hf hE
 simp only [con2q] at ha
 split at ha
 ·rename_i x y
  cases hx:asQ db x with
  | none=>rw [hx] at ha;cases ha
  | some r =>
   cases hy:asQ db y with
   | none=>rw [hx,hy] at ha;cases ha
   | some s =>
    rw [hx,hy] at ha
    obtain ⟨h1,h2⟩:=asQ_ok hx hf
    obtain ⟨h3,h4⟩:=asQ_ok hy hf
    exact h b r s res new ha _ _ ρ W h1 h3 h2 h4 hE
 ·cases ha
def qR (b:Nat) (r:Rat):Option (SV×List Fm):=some (.e (.a (qC b r)),qF b r)
theorem qR_some {b:Nat} {r:Rat} {res:SV} {new:List Fm} (h:qR b r=some (res,new)):.e (.a (qC b r))=res∧qF b r=new:=by
 simpa only [qR,Option.some.injEq,Prod.mk.injEq] using h
def qMul:Con SM:=con2q 20 fun b r s=>qR b (r*s)
def qAdd:Con SM:=con2q 16 fun b r s=>qR b (r+s)
def qSub:Con SM:=con2q 18 fun b r s=>qR b (r - s)
def qOver:Con SM:=con2q 47 fun b r s=>bif decide (s.num=0) then none else qR b (r / s)
def qDiv:Con SM:=con2q 11 fun b r s=>some (.t [.a (qC b (r / s)),.s (.it .i64 (if s=0 then 9 else 0))],qF b (r / s))
def qCmp:Con SM:=con2q 26 fun _ r s=>iR (cmpQ r s)
def qNeg:Con SM:=con1q 22 fun b r=>qR b (-r)
def qAbs:Con SM:=con1q 24 fun b r=>qR b (if r.num<0 then -r else r)
def qInv:Con SM:=con1q 84 fun b r=>bif decide (r.num=0) then none else qR b r⁻¹
def qNum:Con SM:=con1q 164 fun b r=>qR b (r.num:Rat)
def qDen:Con SM:=con1q 107 fun b r=>qR b (((r.den:Nat):Int):Rat)
def qFloor:Con SM:=con1q 34 fun b r=>qR b ((r.num / (r.den:Int):Int):Rat)
def qSign:Con SM:=con1q 8 fun _ r=>iR (sgn (decide (r.num<0)) r.num.natAbs)
def qInt:Con SM where
 fn:=14
 app:=fun _ b args=>match args with
  | [.e (.s (.it .i64 n))]=>bif decide (-9223372036854775808≤n) && decide (n<9223372036854775808) then qR b (n:Rat) else none
  | _=>none
def kq:List (Con SM):=qMul :: qAdd :: qSub :: qOver :: qDiv :: qCmp :: qNeg :: qAbs :: qInv :: qNum :: qDen :: qFloor :: qSign :: qInt :: km
theorem qMul_ok:qMul.Ok Tryz.prog SM EV:=con2q_ok fun b r s res new h v v' ρ W h1 h2 f1 f2 hE=>by
 obtain ⟨rfl,rfl⟩:=qR_some h
 exact ans_q (Mul_calls r s v v' 200 W h1 h2 (by decide) f1 f2 hE.tz)
theorem qAdd_ok:qAdd.Ok Tryz.prog SM EV:=con2q_ok fun b r s res new h v v' ρ W h1 h2 f1 f2 hE=>by
 obtain ⟨rfl,rfl⟩:=qR_some h
 exact ans_q (Add_calls r s v v' 200 W h1 h2 (by decide) f1 f2 hE.tz)
theorem qSub_ok:qSub.Ok Tryz.prog SM EV:=con2q_ok fun b r s res new h v v' ρ W h1 h2 f1 f2 hE=>by
 obtain ⟨rfl,rfl⟩:=qR_some h
 exact ans_q (Sub_calls r s v v' 200 W h1 h2 (by decide) f1 f2 hE.tz)
theorem not_some {α:Type} {g:Bool} {x:Option α} {y:α} (h:(bif g then none else x)=some y):g=false∧x=some y:=by
 cases g with
 | true=>cases h
 | false=>exact ⟨rfl,h⟩
theorem qOver_ok:qOver.Ok Tryz.prog SM EV:=con2q_ok fun b r s res new h v v' ρ W h1 h2 f1 f2 hE=>by
 obtain ⟨hg,h⟩:=not_some h
 obtain ⟨rfl,rfl⟩:=qR_some h
 exact ans_q (Over_calls r s v v' 200 W h1 h2 (by decide) (fun e=>of_decide_eq_false hg (by rw [e];rfl)) f1 f2 hE.tz)
theorem qDiv_ok:qDiv.Ok Tryz.prog SM EV:=con2q_ok fun b r s res new h v v' ρ W h1 h2 f1 f2 hE=>by
 simp only [Option.some.injEq,Prod.mk.injEq] at h
 obtain ⟨rfl,rfl⟩:=h
 exact ans_qe (Div_calls r s v v' 200 W h1 h2 (by decide) f1 f2 hE.tz)
theorem qCmp_ok:qCmp.Ok Tryz.prog SM EV:=con2q_ok fun b r s res new h v v' ρ W h1 h2 f1 f2 _=>by
 obtain ⟨rfl,rfl⟩:=iR_some h
 exact ans_v (Cmp_calls r s v v' 200 W h1 h2 (by decide) f1 f2) fun _=>rfl
theorem qNeg_ok:qNeg.Ok Tryz.prog SM EV:=con1q_ok fun b r res new h v ρ W h1 _ _=>by
 obtain ⟨rfl,rfl⟩:=qR_some h
 exact ans_q (Neg_calls r v W h1)
theorem qAbs_ok:qAbs.Ok Tryz.prog SM EV:=con1q_ok fun b r res new h v ρ W h1 _ _=>by
 obtain ⟨rfl,rfl⟩:=qR_some h
 exact ans_q (Abs_calls r v W h1)
theorem qInv_ok:qInv.Ok Tryz.prog SM EV:=con1q_ok fun b r res new h v ρ W h1 _ _=>by
 obtain ⟨hg,h⟩:=not_some h
 obtain ⟨rfl,rfl⟩:=qR_some h
 exact ans_q (Inv_calls r v W h1 fun e=>of_decide_eq_false hg (by rw [e];rfl))
theorem qNum_ok:qNum.Ok Tryz.prog SM EV:=con1q_ok fun b r res new h v ρ W h1 _ _=>by
 obtain ⟨rfl,rfl⟩:=qR_some h
 exact ans_q (Num_calls r v W h1)
theorem qDen_ok:qDen.Ok Tryz.prog SM EV:=con1q_ok fun b r res new h v ρ W h1 _ _=>by
 obtain ⟨rfl,rfl⟩:=qR_some h
 exact ans_q (Den_calls r v W h1)
theorem qFloor_ok:qFloor.Ok Tryz.prog SM EV:=con1q_ok fun b r res new h v ρ W h1 f1 _=>by
 obtain ⟨rfl,rfl⟩:=qR_some h
 exact ans_q (Floor_calls r v 200 W h1 (by decide) f1)
theorem qSign_ok:qSign.Ok Tryz.prog SM EV:=con1q_ok fun b r res new h v ρ W h1 _ _=>by
 obtain ⟨rfl,rfl⟩:=iR_some h
 obtain ⟨c,d,e,f,rfl,hm,-⟩:=h1
 exact ans_v (Sign_calls (decide (r.num<0)) c d e f r.num.natAbs W hm) fun _=>rfl
theorem qInt_ok:qInt.Ok Tryz.prog SM EV:=by
 intro db b args res new ha ρ W hf _
 simp only [qInt] at ha
 split at ha
 ·rename_i n
  obtain ⟨hg,h⟩:=guard_some (α:=SV×List Fm) ha
  obtain ⟨rfl,rfl⟩:=qR_some h
  simp only [Bool.and_eq_true] at hg
  exact ans_q (ρ:=ρ) (b:=b) (Int_calls n (of_decide_eq_true hg.1) (of_decide_eq_true hg.2) W)
 ·cases ha
theorem kq_ok:∀ c∈kq,c.Ok Tryz.prog SM EV:=cons_ok qMul_ok (cons_ok qAdd_ok (cons_ok qSub_ok (cons_ok qOver_ok (cons_ok qDiv_ok (cons_ok qCmp_ok (cons_ok qNeg_ok (cons_ok qAbs_ok (cons_ok qInv_ok (cons_ok qNum_ok (cons_ok qDen_ok (cons_ok qFloor_ok (cons_ok qSign_ok (cons_ok qInt_ok km_ok)))))))))))))
end Rx.Ry
end Go.Proofs.YteeelpcgbenjjaaGreatDoor
