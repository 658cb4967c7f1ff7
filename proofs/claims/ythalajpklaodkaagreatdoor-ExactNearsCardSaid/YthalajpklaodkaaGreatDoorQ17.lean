/- What the proof rests on, part 17. -/
import Derived.Test.YthalajpklaodkaaGreatDoorQ16
import Derived.Test.YthalajpklaodkaaGreatDoorQ05
namespace Go.Proofs.YthalajpklaodkaaGreatDoor
set_option maxRecDepth 100000
set_option maxHeartbeats 80000000
section
theorem bW (r:Rat):ak (bM r)=r.den:=by
 unfold ak bM
 by_cases h:r.den=1
 ·rw [if_pos h,if_pos rfl,h]
 ·rw [if_neg h,if_neg r.den_nz]
theorem uM (r:Rat):mkRat (zs (decide (r.num<0)) r.num.natAbs) (ak (bM r))=r:=by
 rw [BM,bW,Rat.mkRat_self]
theorem kX (r:Rat):sgn (decide (r.num<0)) r.num.natAbs=0↔r=0:=by
 unfold sgn
 constructor
 ·intro h
  by_cases h1:r.num<0
  ·simp [h1] at h
  ·rw [if_neg (by simpa using h1)] at h
   have h2:r.num.natAbs=0:=by
    by_cases h3:r.num.natAbs=0
    ·exact h3
    ·simp [h3] at h
   exact Rat.num_eq_zero.1 (show r.num=0 by omega)
 ·intro h
  subst h
  rfl
namespace Rx
open Go.RowKit
def bt (L:List Nat):Nat→Nat:=fun n=>L.getD n 0
def em (L:List Nv):Env:=fun n=>L.getD n default
abbrev nC (t:Bool) (s s':Nat):SV:=.e (.a [.bl t,.ou s,.os s,.ou s',.os s'])
abbrev nN (t:Bool) (i j:Nat):Pt:=.c [.b t,.m i,.m j]
theorem jy {β:Nat→Nat}:∀ p∈([]:List (Nat×Nat)),β p.1=p.2∧p.2<B64:=fun p h=>by cases h
section
variable {β:Nat→Nat} {r:Rat} {t1 t2:Bool} {x1 y1 x2 y2:Int} {p1 r1 p2 r2:Option Addr} {l1 q1 s1 v1 l2 q2 s2 v2:Nat} {w:World}
theorem rG {f:FuncId} {R:Ending→World→Prop} (i1:ah w (.int .u64 x1) (.slice p1 l1 q1) (β 0)) (j1:ah w (.int .u64 y1) (.slice r1 s1 v1) (β 1)) (i2:ah w (.int .u64 x2) (.slice p2 l2 q2) (β 2)) (j2:ah w (.int .u64 y2) (.slice r2 s2 v2) (β 3))
  (go:∀ ρ:Env,(∀ g∈[Fm.m 0 0,.m 1 1,.m 2 2,.m 3 3],Fm.on β r ρ g w)→Calls Tryz.prog f ([nC t1 0 1,nC t2 2 3].map (SV.den ρ)).toArray w R):Calls Tryz.prog f #[.agg #[.bool t1,.int .u64 x1,.slice p1 l1 q1,.int .u64 y1,.slice r1 s1 v1],.agg #[.bool t2,.int .u64 x2,.slice p2 l2 q2,.int .u64 y2,.slice r2 s2 v2]] w R:=by
 refine go (em [⟨false,x1,p1,l1,q1,.empty,0,default⟩,⟨false,y1,r1,s1,v1,.empty,0,default⟩,⟨false,x2,p2,l2,q2,.empty,0,default⟩,⟨false,y2,r2,s2,v2,.empty,0,default⟩]) fun g hg=>?_
 simp only [List.mem_cons,List.not_mem_nil,or_false] at hg
 rcases hg with rfl | rfl | rfl | rfl
 ·exact i1
 ·exact j1
 ·exact i2
 ·exact j2
abbrev f4:List Fm:=[.m 0 0,.m 1 1,.m 2 2,.m 3 3]
def eS (t:Bool) (i j:Nat) (n:Int):En:=⟨12,[nN t i j],.i n⟩
def eU (t:Bool) (i j k:Nat):En:=⟨101,[nN t i j],.c [.m k]⟩
def eG (i j k:Nat):En:=⟨102,[.c [.m i],.c [.m j]],.c [.m k]⟩
def eO (i j k:Nat):En:=⟨103,[.c [.m i],.c [.m j]],.c [.m k]⟩
def eT (i j k:Nat):En:=⟨104,[.c [.m i],.c [.m j]],.c [.m k]⟩
def eL (t:Bool) (i j:Nat):En:=⟨105,[.c [.b t,.m i],.c [.m j]],.c [.q]⟩
theorem jU {T:World→Prop} {t:Bool} {i j:Nat} {n:Int} (h:sgn t (β i)=n):(eS t i j n).Ok T β r:=Uo h
theorem nX {T:World→Prop} {t:Bool} {i j k:Nat} (h:ak (β j)=β k):(eU t i j k).Ok T β r:=Ur h
theorem yV {i j k K:Nat} (h:Nat.gcd (β i) (β j)=β k) (hK:K≤68719476736) (h1:β i<B64 ^ K) (h2:β j<B64 ^ K):(eG i j k).Ok Tab β r:=vO fun c d e g W a b hT=>h ▸ LY _ _ K c d e g W a b hK h1 h2 hT
theorem nV {T:World→Prop} {i j k K:Nat} (h:β i / β j=β k) (h0:β j≠0) (hK:K≤137438953472) (h1:β i<B64 ^ K):(eO i j k).Ok T β r:=vO fun c d e g W a b _=>h ▸ wG _ _ K c d e g W a b (Nat.pos_of_ne_zero h0) hK h1
theorem qw {T:World→Prop} {i j k K:Nat} (h:β i*β j=β k) (hK:K≤68719476736) (h1:β i<B64 ^ K) (h2:β j<B64 ^ K):(eT i j k).Ok T β r:=vO fun c d e g W a b _=>h ▸ FI _ _ K c d e g W a b hK h1 h2
theorem EF {T:World→Prop} {t:Bool} {i j:Nat} (hc:Nat.Coprime (β i) (β j)) (hm:β j≠0) (hr:mkRat (zs t (β i)) (β j)=r):(eL t i j).Ok T β r:=Ul hc hm hr
def sg (t:Bool):Int:=if t then -1 else 1
theorem pG {t:Bool} {n:Nat} (h:sgn t n≠0):sgn t n=sg t:=by
 cases t
 ·unfold sgn at *
  rw [if_neg (by decide)] at *
  split
  ·rename_i h2;rw [if_pos h2] at h;exact absurd rfl h
  ·rfl
 ·rfl
def MC (t1 t2:Bool):List En:=[eS t1 0 1 (sg t1),eS t2 2 3 (sg t2),eU t1 0 1 4,eU t2 2 3 5,eG 0 5 6,eG 2 4 7,eO 0 6 8,eO 2 7 9,eT 8 9 10,eO 4 7 11,eO 5 6 12,eT 11 12 13,eL (t1 != t2) 10 13]
theorem X9 (β:Nat→Nat) (r:Rat) (t1 t2:Bool):isW true (aN Tryz.prog (SM β r) (HM β r) ([eS t1 0 1 0].map (dL β r [])) 1 24 [nC t1 0 1,nC t2 2 3] f4 4)=true:=by cases t1 <;> kernel_rfl
theorem Ya (β:Nat→Nat) (r:Rat) (t1 t2:Bool):isW true (aN Tryz.prog (SM β r) (HM β r) ([eS t1 0 1 (sg t1),eS t2 2 3 0].map (dL β r [])) 1 24 [nC t1 0 1,nC t2 2 3] f4 4)=true:=by
 cases t1 <;> cases t2 <;> kernel_rfl
theorem Yb (β:Nat→Nat) (r:Rat) (t1 t2:Bool):isW false (aN Tryz.prog (SM β r) (HM β r) ((MC t1 t2).map (dL β r [])) 1 24 [nC t1 0 1,nC t2 2 3] f4 4)=true:=by
 cases t1 <;> cases t2 <;> kernel_rfl
end
end Rx
theorem Yc (t1 t2:Bool) (x1 y1 x2 y2:Int) (p1 r1 p2 r2:Option Addr) (l1 q1 s1 v1 l2 q2 s2 v2 n1 m1 n2 m2:Nat) (w:World)
  (i1:ah w (.int .u64 x1) (.slice p1 l1 q1) n1) (j1:ah w (.int .u64 y1) (.slice r1 s1 v1) m1) (i2:ah w (.int .u64 x2) (.slice p2 l2 q2) n2) (j2:ah w (.int .u64 y2) (.slice r2 s2 v2) m2) (hT:Tab w) (h1:sgn t1 n1=0) :
  Calls Tryz.prog 24 #[.agg #[.bool t1,.int .u64 x1,.slice p1 l1 q1,.int .u64 y1,.slice r1 s1 v1],.agg #[.bool t2,.int .u64 x2,.slice p2 l2 q2,.int .u64 y2,.slice r2 s2 v2]] w (aY w 0):=
 Rx.rG (β:=Rx.bt [n1,m1,n2,m2]) i1 j1 i2 j2 fun _ hg=>Rx.mO Rx.jy (fun e he=>by
  obtain rfl:=List.mem_singleton.1 he
  exact Rx.jU h1) (Rx.X9 _ _ _ _) (fun _=>rfl) (Rx.tab_below hT) hg
theorem Yd (t1 t2:Bool) (x1 y1 x2 y2:Int) (p1 r1 p2 r2:Option Addr) (l1 q1 s1 v1 l2 q2 s2 v2 n1 m1 n2 m2:Nat) (w:World)
  (i1:ah w (.int .u64 x1) (.slice p1 l1 q1) n1) (j1:ah w (.int .u64 y1) (.slice r1 s1 v1) m1) (i2:ah w (.int .u64 x2) (.slice p2 l2 q2) n2) (j2:ah w (.int .u64 y2) (.slice r2 s2 v2) m2) (hT:Tab w) (h1:sgn t1 n1≠0) (h2:sgn t2 n2=0) :
  Calls Tryz.prog 24 #[.agg #[.bool t1,.int .u64 x1,.slice p1 l1 q1,.int .u64 y1,.slice r1 s1 v1],.agg #[.bool t2,.int .u64 x2,.slice p2 l2 q2,.int .u64 y2,.slice r2 s2 v2]] w (aY w 0):=
 Rx.rG (β:=Rx.bt [n1,m1,n2,m2]) i1 j1 i2 j2 fun _ hg=>Rx.mO Rx.jy (fun e he=>by
  simp only [List.mem_cons,List.not_mem_nil,or_false] at he
  rcases he with rfl | rfl
  ·exact Rx.jU (Rx.pG h1)
  ·exact Rx.jU h2) (Rx.Ya _ _ _ _) (fun _=>rfl) (Rx.tab_below hT) hg
theorem X6 (t1 t2:Bool) (x1 y1 x2 y2:Int) (p1 r1 p2 r2:Option Addr) (l1 q1 s1 v1 l2 q2 s2 v2 n1 m1 n2 m2 k:Nat) (w:World)
  (i1:ah w (.int .u64 x1) (.slice p1 l1 q1) n1) (j1:ah w (.int .u64 y1) (.slice r1 s1 v1) m1) (i2:ah w (.int .u64 x2) (.slice p2 l2 q2) n2) (j2:ah w (.int .u64 y2) (.slice r2 s2 v2) m2) (hT:Tab w) (h1:sgn t1 n1≠0) (h2:sgn t2 n2≠0) (o1:Nat.Coprime n1 (ak m1)) (o2:Nat.Coprime n2 (ak m2)) (hk:k≤34359738368) (k1:n1<B64 ^ k) (k2:ak m1<B64 ^ k) (k3:n2<B64 ^ k) (k4:ak m2<B64 ^ k) (e1:ak m1≠0) (e2:ak m2≠0) :
  Calls Tryz.prog 24 #[.agg #[.bool t1,.int .u64 x1,.slice p1 l1 q1,.int .u64 y1,.slice r1 s1 v1],.agg #[.bool t2,.int .u64 x2,.slice p2 l2 q2,.int .u64 y2,.slice r2 s2 v2]] w (aY w (mkRat (zs t1 n1) (ak m1)*mkRat (zs t2 n2) (ak m2))):=by
 obtain ⟨P1,P2,P3,P4,P5⟩:=X8 t1 t2 n1 (ak m1) n2 (ak m2) o1 o2 e1 e2
 refine Rx.rG (β:=Rx.bt [n1,m1,n2,m2,ak m1,ak m2,Nat.gcd n1 (ak m2),Nat.gcd n2 (ak m1),n1 / Nat.gcd n1 (ak m2),n2 / Nat.gcd n2 (ak m1),n1 / Nat.gcd n1 (ak m2)*(n2 / Nat.gcd n2 (ak m1)),ak m1 / Nat.gcd n2 (ak m1),ak m2 / Nat.gcd n1 (ak m2),ak m1 / Nat.gcd n2 (ak m1)*(ak m2 / Nat.gcd n1 (ak m2))]) i1 j1 i2 j2 fun _ hg=>Rx.mO Rx.jy (fun e he=>?_) (Rx.Yb _ _ _ _) (fun h=>by cases h) (Rx.tab_below hT) hg
 have lt:∀ {a b:Nat},a<B64 ^ k→a / b<B64 ^ k:=fun h=>Nat.lt_of_le_of_lt (Nat.div_le_self _ _) h
 simp only [Rx.MC,List.mem_cons,List.not_mem_nil,or_false] at he
 rcases he with rfl | rfl | rfl | rfl | rfl | rfl | rfl | rfl | rfl | rfl | rfl | rfl | rfl
 ·exact Rx.jU (Rx.pG h1)
 ·exact Rx.jU (Rx.pG h2)
 ·exact Rx.nX rfl
 ·exact Rx.nX rfl
 ·exact Rx.yV (K:=k) rfl (by omega) k1 k4
 ·exact Rx.yV (K:=k) rfl (by omega) k3 k2
 ·exact Rx.nV (K:=k) rfl P1 (by omega) k1
 ·exact Rx.nV (K:=k) rfl P2 (by omega) k3
 ·exact Rx.qw (K:=k) rfl (by omega) (lt k1) (lt k3)
 ·exact Rx.nV (K:=k) rfl P2 (by omega) k2
 ·exact Rx.nV (K:=k) rfl P1 (by omega) k4
 ·exact Rx.qw (K:=k) rfl (by omega) (lt k2) (lt k4)
 ·exact Rx.EF P3 P4 P5
theorem ni (r s:Rat) (v1 v2:Value) (k:Nat) (w:World) (h1:IsQ w v1 r) (h2:IsQ w v2 s) (hk:k≤34359738368) (f1:Fits k r) (f2:Fits k s) (hT:Tab w) :
  Calls Tryz.prog 24 #[v1,v2] w (aY w (r*s)):=by
 obtain ⟨t1,x1,p1,l1,q1,y1,r1,s1,u1,rfl,i1,j1,e1⟩:=h1.shape
 obtain ⟨t2,x2,p2,l2,q2,y2,r2,s2,u2,rfl,i2,j2,e2⟩:=h2.shape
 have e1':=e1.out
 have e2':=e2.out
 by_cases z1:r=0
 ·have:=Yc t1 t2 x1 y1 x2 y2 p1 r1 p2 r2 l1 q1 s1 u1 l2 q2 s2 u2 _ _ _ _ w i1 j1 i2 j2 hT (by rw [e1'];exact (kX r).2 z1)
  rw [z1,Rat.zero_mul]
  exact this
 have n1:sgn t1 r.num.natAbs≠0:=by rw [e1'];exact fun h=>z1 ((kX r).1 h)
 by_cases z2:s=0
 ·have:=Yd t1 t2 x1 y1 x2 y2 p1 r1 p2 r2 l1 q1 s1 u1 l2 q2 s2 u2 _ _ _ _ w i1 j1 i2 j2 hT n1 (by rw [e2'];exact (kX s).2 z2)
  rw [z2,Rat.mul_zero]
  exact this
 have n2:sgn t2 s.num.natAbs≠0:=by rw [e2'];exact fun h=>z2 ((kX s).1 h)
 have:=X6 t1 t2 x1 y1 x2 y2 p1 r1 p2 r2 l1 q1 s1 u1 l2 q2 s2 u2 _ _ _ _ k w i1 j1 i2 j2 hT n1 n2 (by rw [bW];exact r.reduced) (by rw [bW];exact s.reduced) hk f1.1 (by rw [bW];exact f1.2) f2.1 (by rw [bW];exact f2.2) (by rw [bW];exact r.den_nz) (by rw [bW];exact s.den_nz)
 rw [e1',e2',uM,uM] at this
 rw [e1',e2']
 exact this
end
section
open Go.RowKit Go.Sort
def Iu (w:World) (b:Bool) (n:Nat) (e:Ending) (w':World):Prop:=∃ x p l q,e=.returned (.agg #[.bool b,.int .u64 x,.slice p l q])∧ah w' (.int .u64 x) (.slice p l q) n∧Below w.heap.size w w'
def mV (t1:Bool) (n1:Nat) (t2:Bool) (n2:Nat):Bool:=if t1=t2 then t1 else if n1=n2 then false else if n2<n1 then t1 else t2
def kZ (t1:Bool) (n1:Nat) (t2:Bool) (n2:Nat):Nat:=if t1=t2 then n1+n2 else n1 - n2+(n2 - n1)
theorem OT (t1 t2:Bool) (n1 n2:Nat):zs (mV t1 n1 t2 n2) (kZ t1 n1 t2 n2)=zs t1 n1+zs t2 n2∧kZ t1 n1 t2 n2≤n1+n2∧((t1=true→n1≠0)→(t2=true→n2≠0)→mV t1 n1 t2 n2=true→kZ t1 n1 t2 n2≠0):=by
 unfold mV kZ
 by_cases h1:n1=n2
 ·cases t1 <;> cases t2 <;> simp [zs,h1] <;> omega
 ·by_cases h2:n2<n1
  ·cases t1 <;> cases t2 <;> simp [zs,h1,h2] <;> omega
  ·cases t1 <;> cases t2 <;> simp [zs,h1,h2] <;> omega
namespace Rx
def eP (i j k:Nat):En:=⟨117,[.c [.m i],.c [.m j]],.c [.m k]⟩
def eM (i j k:Nat):En:=⟨142,[.c [.m i],.c [.m j]],.c [.m k]⟩
def eC (i j:Nat) (n:Int):En:=⟨111,[.c [.m i],.c [.m j]],.i n⟩
abbrev sC (t:Bool) (s:Nat):SV:=.e (.a [.bl t,.ou s,.os s])
section
variable {β:Nat→Nat} {r:Rat}
theorem J3 {T:World→Prop} {i j k K:Nat} (h:β i+β j=β k) (hK:K≤137438953472) (h1:β i<B64 ^ K) (h2:β j<B64 ^ K):(eP i j k).Ok T β r:=vO fun c d e g W a b _=>h ▸ FH _ _ K c d e g W a b hK h1 h2
theorem JZ {T:World→Prop} {i j k K:Nat} (h:β i - β j=β k) (hl:β j≤β i) (hK:K≤137438953472) (h1:β i<B64 ^ K):(eM i j k).Ok T β r:=vO fun c d e g W a b _=>h ▸ XL _ _ K c d e g W a b hl hK h1
theorem yU {T:World→Prop} {i j K:Nat} {n:Int} (h:aC (β i) (β j)=n) (hK:K≤274877906944) (h1:β i<B64 ^ K):(eC i j n).Ok T β r:=Um fun c d e g W a b=>h ▸ LQ _ _ K c d e g W a b hK h1
theorem xO (β:Nat→Nat) (r:Rat) (t:Bool) :
  qJ t 2 [] (aN Tryz.prog (SM β r) (HM β r) ([eP 0 1 2].map (dL β r [])) 1 100 [sC t 0,sC t 1] [.m 0 0,.m 1 1] 2)=true ∧
  qJ t 2 [] (aN Tryz.prog (SM β r) (HM β r) ([eC 0 1 1,eM 0 1 2].map (dL β r [])) 1 100 [sC t 0,sC (!t) 1] [.m 0 0,.m 1 1] 2)=true ∧
  qJ (!t) 2 [] (aN Tryz.prog (SM β r) (HM β r) ([eC 0 1 (-1),eM 1 0 2].map (dL β r [])) 1 100 [sC t 0,sC (!t) 1] [.m 0 0,.m 1 1] 2)=true ∧
  qJ false 2 [(2,0)] (aN Tryz.prog (SM β r) (HM β r) ([eC 0 1 0].map (dL β r [(2,0)])) 1 100 [sC t 0,sC (!t) 1] [.m 0 0,.m 1 1] 2)=true:=by
 cases t <;> exact ⟨by kernel_rfl,by kernel_rfl,by kernel_rfl,by kernel_rfl⟩
end
end Rx
theorem Qv (t1 t2:Bool) (c1 d1 c2 d2:Value) (n1 n2 k:Nat) (w:World) (i1:ah w c1 d1 n1) (i2:ah w c2 d2 n2) (hk:k≤137438953472) (k1:n1<B64 ^ k) (k2:n2<B64 ^ k) :
  Calls Tryz.prog 100 #[.agg #[.bool t1,c1,d1],.agg #[.bool t2,c2,d2]] w (Iu w (mV t1 n1 t2 n2) (kZ t1 n1 t2 n2)):=by
 obtain ⟨x1,p1,l1,q1,rfl,rfl⟩:=i1.shape
 obtain ⟨x2,p2,l2,q2,rfl,rfl⟩:=i2.shape
 obtain ⟨ρ,hρ⟩:∃ ρ,ρ=Rx.em [⟨false,x1,p1,l1,q1,.empty,0,default⟩,⟨false,x2,p2,l2,q2,.empty,0,default⟩]:=⟨_,rfl⟩
 have hf:∀ m:Nat,∀ g∈[Rx.Fm.m 0 0,.m 1 1],Rx.Fm.on (Rx.bt [n1,n2,m]) 0 ρ g w:=fun m g hg=>by
  simp only [List.mem_cons,List.not_mem_nil,or_false] at hg
  rw [hρ]
  rcases hg with rfl | rfl
  ·exact i1
  ·exact i2
 have ret:∀ {s:Bool} {m:Nat} {e:Ending} {W:World},(∃ c d,e=.returned (.agg #[.bool s,c,d])∧ah W c d m∧Below w.heap.size w W)→Iu w s m e W:=fun ⟨c,d,he,hm,hb⟩=>by
  obtain ⟨x,p,l,q,rfl,rfl⟩:=hm.shape
  exact ⟨x,p,l,q,he,hm,hb⟩
 have he:∀ a b:Bool,([Rx.sC a 0,Rx.sC b 1].map (Rx.SV.den ρ)).toArray=#[.agg #[.bool a,.int .u64 x1,.slice p1 l1 q1],.agg #[.bool b,.int .u64 x2,.slice p2 l2 q2]]:=fun a b=>by rw [hρ];rfl
 unfold mV kZ
 by_cases h:t1=t2
 ·subst h
  rw [if_pos rfl,if_pos rfl,← he]
  exact (Rx.Bf (T:=fun _=>True) (β:=Rx.bt [n1,n2,n1+n2]) (r:=0) Rx.jy (fun e he=>by
   obtain rfl:=List.mem_singleton.1 he
   exact Rx.J3 (K:=k) rfl hk k1 k2) (Rx.xO _ _ t1).1 (fun _ _=>trivial) (hf _)).mono fun _ _=>ret
 ·obtain rfl:t2 = !t1:=by cases t1 <;> cases t2 <;> simp_all
  rw [if_neg h,if_neg h,← he]
  rcases Nat.lt_trichotomy n1 n2 with h1 | h1 | h1
  ·rw [if_neg (by omega),if_neg (by omega),show n1 - n2+(n2 - n1)=n2 - n1 by omega]
   exact (Rx.Bf (T:=fun _=>True) (β:=Rx.bt [n1,n2,n2 - n1]) (r:=0) Rx.jy (fun e he=>by
    simp only [List.mem_cons,List.not_mem_nil,or_false] at he
    rcases he with rfl | rfl
    ·exact Rx.yU (K:=k) (by show aC n1 n2 = -1;unfold aC;rw [if_pos h1]) (by omega) k1
    ·exact Rx.JZ (K:=k) rfl (Nat.le_of_lt h1) hk k2) (Rx.xO _ _ t1).2.2.1 (fun _ _=>trivial) (hf _)).mono fun _ _=>ret
  ·rw [if_pos h1,show n1 - n2+(n2 - n1)=0 by omega]
   exact (Rx.Bf (T:=fun _=>True) (β:=Rx.bt [n1,n2,0]) (r:=0) (fun p hp=>by obtain rfl:=List.mem_singleton.1 hp;exact ⟨rfl,by decide⟩) (fun e he=>by
    obtain rfl:=List.mem_singleton.1 he
    exact Rx.yU (K:=k) (by show aC n1 n2=0;unfold aC;rw [if_neg (by omega),if_pos h1]) (by omega) k1) (Rx.xO _ _ t1).2.2.2 (fun _ _=>trivial) (hf _)).mono fun _ _=>ret
  ·rw [if_neg (by omega),if_pos h1,show n1 - n2+(n2 - n1)=n1 - n2 by omega]
   exact (Rx.Bf (T:=fun _=>True) (β:=Rx.bt [n1,n2,n1 - n2]) (r:=0) Rx.jy (fun e he=>by
    simp only [List.mem_cons,List.not_mem_nil,or_false] at he
    rcases he with rfl | rfl
    ·exact Rx.yU (K:=k) (by show aC n1 n2=1;unfold aC;rw [if_neg (by omega),if_neg (by omega)]) (by omega) k1
    ·exact Rx.JZ (K:=k) rfl (Nat.le_of_lt h1) hk k1) (Rx.xO _ _ t1).2.1 (fun _ _=>trivial) (hf _)).mono fun _ _=>ret
end
section
theorem JG {a b:Nat} {x y z:Int} (h:z=x*b+y*a) (hx:Nat.Coprime x.natAbs a) (hb:Nat.Coprime b a):Nat.Coprime z.natAbs a:=by
 have h1:Nat.Coprime (x.natAbs*b) a:=Nat.Coprime.mul_left hx hb
 have h2:(x*b).natAbs=x.natAbs*b:=by rw [Int.natAbs_mul,Int.natAbs_natCast]
 have h3:Int.gcd z a=Int.gcd (x*b) a:=by rw [h,Int.gcd_add_mul_right_left]
 have h4:Int.gcd z a=Nat.gcd z.natAbs a:=rfl
 have h5:Int.gcd (x*b) a=Nat.gcd (x*b).natAbs a:=rfl
 unfold Nat.Coprime at *
 rw [← h4,h3,h5,h2]
 exact h1
theorem Qo (b t1 t2:Bool) (n n1 d1 n2 d2:Nat) (h1:Nat.Coprime n1 d1) (h2:Nat.Coprime n2 d2) (e1:d1≠0) (e2:d2≠0)
  (hz:zs b n=zs t1 (n1*(d2 / Nat.gcd d1 d2))+zs t2 (n2*(d1 / Nat.gcd d1 d2))) :
  Nat.gcd d1 d2≠0∧Nat.gcd n (Nat.gcd d1 d2)≠0∧Nat.Coprime (n / Nat.gcd n (Nat.gcd d1 d2)) (d1 / Nat.gcd d1 d2*(d2 / Nat.gcd n (Nat.gcd d1 d2)))∧d1 / Nat.gcd d1 d2*(d2 / Nat.gcd n (Nat.gcd d1 d2))≠0 ∧
  mkRat (zs b (n / Nat.gcd n (Nat.gcd d1 d2))) (d1 / Nat.gcd d1 d2*(d2 / Nat.gcd n (Nat.gcd d1 d2)))=mkRat (zs t1 n1) d1+mkRat (zs t2 n2) d2:=by
 obtain ⟨c0,c1,c2⟩:=tV d1 d2 e2
 have ca:=Nat.gcd_dvd_left d1 d2
 have cb:=Nat.gcd_dvd_right d1 d2
 generalize Nat.gcd d1 d2=c at *
 obtain ⟨a,rfl⟩:=ca
 obtain ⟨b',rfl⟩:=cb
 rw [Nat.mul_div_cancel_left _ (by omega)] at *
 rw [Nat.mul_div_cancel_left _ (by omega)] at *
 obtain ⟨g0,g1,g2⟩:=tV n c c0
 have ga:=Nat.gcd_dvd_left n c
 have gb:=Nat.gcd_dvd_right n c
 generalize Nat.gcd n c=g at *
 obtain ⟨m,rfl⟩:=ga
 obtain ⟨c',rfl⟩:=gb
 rw [Nat.mul_div_cancel_left _ (by omega)] at *
 rw [Nat.mul_div_cancel_left _ (by omega)] at *
 have hdv:g*c' * b' / g=c' * b':=by rw [Nat.mul_assoc,Nat.mul_div_cancel_left _ (by omega)]
 rw [hdv]
 have hb0:b'≠0:=c2
 have ha0:a≠0:=fun e=>e1 (by rw [e,Nat.mul_zero])
 have k1:Nat.Coprime n1 a:=sO h1 (Nat.dvd_refl _) (Nat.dvd_mul_left _ _)
 have k2:Nat.Coprime n2 b':=sO h2 (Nat.dvd_refl _) (Nat.dvd_mul_left _ _)
 rw [xu t1,xu t2] at hz
 have z1:=JG (a:=a) (b:=b') (x:=zs t1 n1) (y:=zs t2 n2) hz (by rw [pK];exact k1) (Nat.Coprime.symm c1)
 have z2:=JG (z:=zs b (g*m)) (a:=b') (b:=a) (x:=zs t2 n2) (y:=zs t1 n1) (by rw [hz,Int.add_comm]) (by rw [pK];exact k2) c1
 rw [pK] at z1 z2
 have m1:Nat.Coprime m a:=sO z1 (Nat.dvd_mul_left _ _) (Nat.dvd_refl _)
 have m2:Nat.Coprime m b':=sO z2 (Nat.dvd_mul_left _ _) (Nat.dvd_refl _)
 have hd:a*(c' * b')≠0:=Nat.mul_ne_zero ha0 (Nat.mul_ne_zero g2 hb0)
 refine ⟨c0,g0,Nat.Coprime.mul_right m1 (Nat.Coprime.mul_right g1 m2),hd,?_⟩
 rw [Rat.mkRat_add_mkRat _ _ e1 e2,Rat.mkRat_eq_iff hd (Nat.mul_ne_zero e1 e2)]
 rw [Nat.mul_comm g m,xu] at hz
 generalize zs b m=z at *
 generalize zs t1 n1=x at *
 generalize zs t2 n2=y at *
 clear z1 z2 m1 m2 k1 k2 h1 h2 c1 g1
 have:z*(g:Int)=x*(b':Int)+y*(a:Int):=hz
 push_cast
 generalize (a:Int)=A at *
 generalize (b':Int)=Bb at *
 generalize (c':Int)=C at *
 generalize (g:Int)=G at *
 grind
end
section
open Go.RowKit Go.Sort
theorem Xw {a b k:Nat} (ha:a<B64 ^ k) (hb:b<B64 ^ k):a+b<B64 ^ (k+1):=by
 rw [Nat.pow_succ]
 have:2≤B64:=by decide
 have:=Nat.mul_le_mul_left (B64 ^ k) this
 omega
namespace Rx
def eW (t:Bool) (i j:Nat) (x:Bool):En:=⟨99,[nN t i j],.b x⟩
def eA (t t' s:Bool) (i j k:Nat):En:=⟨100,[.c [.b t,.m i],.c [.b t',.m j]],.c [.b s,.m k]⟩
def eH (t:Bool) (i:Nat):En:=⟨98,[.c [.b t,.m i]],.c [.q]⟩
def eQ (n:Int):En:=⟨12,[.c [.q]],.i n⟩
section
variable {β:Nat→Nat} {r:Rat}
theorem yY {T:World→Prop} {t x:Bool} {i j:Nat} (h:(β j == 0)=x):(eW t i j x).Ok T β r:=Uk h
theorem ED {T:World→Prop} {t:Bool} {i:Nat} (h0:t=true→β i≠0) (hr:((zs t (β i):Int):Rat)=r):(eH t i).Ok T β r:=Us h0 hr
theorem JY {T:World→Prop} {t t' s:Bool} {i j k K:Nat} (h1:mV t (β i) t' (β j)=s) (h2:kZ t (β i) t' (β j)=β k) (hK:K≤137438953472) (k1:β i<B64 ^ K) (k2:β j<B64 ^ K):(eA t t' s i j k).Ok T β r:=by
 intro W vs hv hT
 match vs,hv with
 | [v,v'],⟨⟨us,hu,ha⟩,⟨us',hu',ha'⟩,_⟩ =>
  obtain ⟨c,d,rfl,g1⟩:=zJ ha
  obtain ⟨e,g,rfl,g2⟩:=zJ ha'
  subst hu hu'
  have:=Qv t t' c d e g (β i) (β j) K W g1 g2 hK k1 k2
  rw [h1,h2] at this
  exact this.mono fun x W' ⟨a,p,l,q,hx,hm,hb⟩=>⟨[.bool s,.int .u64 a,.slice p l q],hx,⟨rfl,hm,trivial⟩,hb⟩
theorem Ug {T:World→Prop} {n:Int} (h:sgn (decide (r.num<0)) r.num.natAbs=n):(eQ n).Ok T β r:=by
 intro W vs hv hT
 match vs,hv with
 | [v],⟨⟨us,hu,ha⟩,_⟩ =>
  match us,ha with
  | [a,b,c,d,e],⟨hq,_⟩ =>
   subst hu
   obtain ⟨t,x,p,l,q,y,p',s',u,hv,i,-,ht⟩:=IsQ.shape hq
   have:=uX t (.int .u64 x) (.slice p l q) (.int .u64 y) (.slice p' s' u) _ W i
   rw [ht.out,h,← ht.out] at this
   show Calls Tryz.prog _ #[.agg #[a,b,c,d,e]] W _
   rw [hv]
   exact this
theorem IW (β:Nat→Nat) (r:Rat) (t1 t2:Bool) :
  isW false (aN Tryz.prog (SM β r) (HM β r) ([eS t1 0 1 0].map (dL β r [])) 1 20 [nC t1 0 1,.e (.a (aK 2))] [.m 0 0,.m 1 1,.w 2] 4)=true ∧
  isW false (aN Tryz.prog (SM β r) (HM β r) ([eQ (sg t1),eS t2 2 3 0].map (dL β r [])) 1 20 [.e (.a (aK 0)),nC t2 2 3] [.w 0,.m 2 2,.m 3 3] 4)=true:=by
 cases t1 <;> cases t2 <;> exact ⟨by kernel_rfl,by kernel_rfl⟩
def IU (t1 t2 s:Bool):List En:=[eS t1 0 1 (sg t1),eS t2 2 3 (sg t2),eW t1 0 1 true,eW t2 2 3 true,eA t1 t2 s 0 2 4,eH s 4]
theorem Qp (β:Nat→Nat) (r:Rat) (t1 t2 s:Bool):isW false (aN Tryz.prog (SM β r) (HM β r) ((IU t1 t2 s).map (dL β r [])) 1 20 [nC t1 0 1,nC t2 2 3] f4 4)=true:=by
 cases t1 <;> cases t2 <;> cases s <;> kernel_rfl
def IQ (t1 t2 s x1 x2:Bool):List En:=[eS t1 0 1 (sg t1),eS t2 2 3 (sg t2),eW t1 0 1 x1,eW t2 2 3 x2,eU t1 0 1 4,eU t2 2 3 5,eG 4 5 6,eO 4 6 7,eO 5 6 8,eT 0 8 9,eT 2 7 10,eA t1 t2 s 9 10 11,eG 11 6 12,eO 11 12 13,eO 5 12 14,eT 7 14 15,eL s 13 15]
theorem Qq (β:Nat→Nat) (r:Rat) (t1 t2 s x1 x2:Bool) (hx:(x1 && x2)=false):isW false (aN Tryz.prog (SM β r) (HM β r) ((IQ t1 t2 s x1 x2).map (dL β r [])) 1 20 [nC t1 0 1,nC t2 2 3] f4 4)=true:=by
 cases x1 <;> cases x2 <;> first | (cases hx;done) | (cases t1 <;> cases t2 <;> cases s <;> kernel_rfl)
end
end Rx
theorem Qs (t1 t2:Bool) (x1 y1 x2 y2:Int) (p1 r1 p2 r2:Option Addr) (l1 q1 s1 v1 l2 q2 s2 v2 n1 m1 n2 m2:Nat) (w:World)
  (i1:ah w (.int .u64 x1) (.slice p1 l1 q1) n1) (j1:ah w (.int .u64 y1) (.slice r1 s1 v1) m1) (i2:ah w (.int .u64 x2) (.slice p2 l2 q2) n2) (j2:ah w (.int .u64 y2) (.slice r2 s2 v2) m2) (hT:Tab w) (r:Rat) (hr:n2=r.num.natAbs) (hd:m2=bM r) (ht:Hid (t2=decide (r.num<0))) (h1:sgn t1 n1=0) :
  Calls Tryz.prog 20 #[.agg #[.bool t1,.int .u64 x1,.slice p1 l1 q1,.int .u64 y1,.slice r1 s1 v1],.agg #[.bool t2,.int .u64 x2,.slice p2 l2 q2,.int .u64 y2,.slice r2 s2 v2]] w (aY w r):=by
 have hq:IsQ w (.agg #[.bool t2,.int .u64 x2,.slice p2 l2 q2,.int .u64 y2,.slice r2 s2 v2]) r:=⟨_,_,_,_,by rw [ht.out],by rw [← hr];exact i2,by rw [← hd];exact j2⟩
 exact Rx.mO (β:=Rx.bt [n1,m1]) (ρ:=Rx.em [⟨false,x1,p1,l1,q1,.empty,0,default⟩,⟨false,y1,r1,s1,v1,.empty,0,default⟩,⟨t2,x2,p2,l2,q2,.empty,0,default⟩,⟨false,y2,r2,s2,v2,.empty,0,default⟩]) (args:=[Rx.nC t1 0 1,.e (.a (Rx.aK 2))]) (fs:=[.m 0 0,.m 1 1,.w 2]) Rx.jy (fun e he=>by
  obtain rfl:=List.mem_singleton.1 he
  exact Rx.jU h1) (Rx.IW _ _ t1 t1).1 (fun h=>by cases h) (Rx.tab_below hT) fun g hg=>by
  simp only [List.mem_cons,List.not_mem_nil,or_false] at hg
  rcases hg with rfl | rfl | rfl
  ·exact i1
  ·exact j1
  ·exact hq
theorem Qu (t1 t2:Bool) (x1 y1 x2 y2:Int) (p1 r1 p2 r2:Option Addr) (l1 q1 s1 v1 l2 q2 s2 v2 n1 m1 n2 m2:Nat) (w:World)
  (i1:ah w (.int .u64 x1) (.slice p1 l1 q1) n1) (j1:ah w (.int .u64 y1) (.slice r1 s1 v1) m1) (i2:ah w (.int .u64 x2) (.slice p2 l2 q2) n2) (j2:ah w (.int .u64 y2) (.slice r2 s2 v2) m2) (hT:Tab w) (r:Rat) (hr:n1=r.num.natAbs) (hd:m1=bM r) (ht:Hid (t1=decide (r.num<0))) (h1:sgn t1 n1≠0) (h2:sgn t2 n2=0) :
  Calls Tryz.prog 20 #[.agg #[.bool t1,.int .u64 x1,.slice p1 l1 q1,.int .u64 y1,.slice r1 s1 v1],.agg #[.bool t2,.int .u64 x2,.slice p2 l2 q2,.int .u64 y2,.slice r2 s2 v2]] w (aY w r):=by
 have hq:IsQ w (.agg #[.bool t1,.int .u64 x1,.slice p1 l1 q1,.int .u64 y1,.slice r1 s1 v1]) r:=⟨_,_,_,_,by rw [ht.out],by rw [← hr];exact i1,by rw [← hd];exact j1⟩
 exact Rx.mO (β:=Rx.bt [0,0,n2,m2]) (ρ:=Rx.em [⟨t1,x1,p1,l1,q1,.empty,0,default⟩,⟨false,y1,r1,s1,v1,.empty,0,default⟩,⟨false,x2,p2,l2,q2,.empty,0,default⟩,⟨false,y2,r2,s2,v2,.empty,0,default⟩]) (args:=[.e (.a (Rx.aK 0)),Rx.nC t2 2 3]) (fs:=[.w 0,.m 2 2,.m 3 3]) Rx.jy (fun e he=>by
  simp only [List.mem_cons,List.not_mem_nil,or_false] at he
  rcases he with rfl | rfl
  ·exact Rx.Ug (by rw [← ht.out,← hr];exact Rx.pG h1)
  ·exact Rx.jU h2) (Rx.IW _ _ t1 t2).2 (fun h=>by cases h) (Rx.tab_below hT) fun g hg=>by
  simp only [List.mem_cons,List.not_mem_nil,or_false] at hg
  rcases hg with rfl | rfl | rfl
  ·exact hq
  ·exact i2
  ·exact j2
theorem Qr (t1 t2:Bool) (x1 y1 x2 y2:Int) (p1 r1 p2 r2:Option Addr) (l1 q1 s1 v1 l2 q2 s2 v2 n1 m1 n2 m2 k:Nat) (w:World)
  (i1:ah w (.int .u64 x1) (.slice p1 l1 q1) n1) (j1:ah w (.int .u64 y1) (.slice r1 s1 v1) m1) (i2:ah w (.int .u64 x2) (.slice p2 l2 q2) n2) (j2:ah w (.int .u64 y2) (.slice r2 s2 v2) m2) (hT:Tab w) (h1:sgn t1 n1≠0) (h2:sgn t2 n2≠0) (w1':m1=0) (w2':m2=0) (hk:k≤137438953472) (k1:n1<B64 ^ k) (k2:n2<B64 ^ k) (g1:t1=true→n1≠0) (g2:t2=true→n2≠0) :
  Calls Tryz.prog 20 #[.agg #[.bool t1,.int .u64 x1,.slice p1 l1 q1,.int .u64 y1,.slice r1 s1 v1],.agg #[.bool t2,.int .u64 x2,.slice p2 l2 q2,.int .u64 y2,.slice r2 s2 v2]] w (aY w ((zs t1 n1+zs t2 n2:Int):Rat)):=by
 obtain ⟨ss1,ss2,ss3⟩:=OT t1 t2 n1 n2
 refine Rx.rG (β:=Rx.bt [n1,m1,n2,m2,kZ t1 n1 t2 n2]) i1 j1 i2 j2 fun _ hg=>Rx.mO Rx.jy (fun e he=>?_) (Rx.Qp _ _ t1 t2 (mV t1 n1 t2 n2)) (fun h=>by cases h) (Rx.tab_below hT) hg
 simp only [Rx.IU,List.mem_cons,List.not_mem_nil,or_false] at he
 rcases he with rfl | rfl | rfl | rfl | rfl | rfl
 ·exact Rx.jU (Rx.pG h1)
 ·exact Rx.jU (Rx.pG h2)
 ·exact Rx.yY (by show (m1 == 0)=true;rw [w1'];rfl)
 ·exact Rx.yY (by show (m2 == 0)=true;rw [w2'];rfl)
 ·exact Rx.JY (K:=k) rfl rfl hk k1 k2
 ·exact Rx.ED (ss3 g1 g2) (by show ((zs (mV t1 n1 t2 n2) (kZ t1 n1 t2 n2):Int):Rat)=_;rw [ss1])
end
section
open Go.RowKit Go.Sort
theorem IV (t1 t2:Bool) (x1 y1 x2 y2:Int) (p1 r1 p2 r2:Option Addr) (l1 q1 s1 v1 l2 q2 s2 v2 n1 m1 n2 m2 k:Nat) (w:World)
  (i1:ah w (.int .u64 x1) (.slice p1 l1 q1) n1) (j1:ah w (.int .u64 y1) (.slice r1 s1 v1) m1) (i2:ah w (.int .u64 x2) (.slice p2 l2 q2) n2) (j2:ah w (.int .u64 y2) (.slice r2 s2 v2) m2) (hT:Tab w) (h1:sgn t1 n1≠0) (h2:sgn t2 n2≠0) (wmm:m1=0→m2≠0) (o1:Nat.Coprime n1 (ak m1)) (o2:Nat.Coprime n2 (ak m2)) (hk:k≤17179869184) (k1:n1<B64 ^ k) (k2:ak m1<B64 ^ k) (k3:n2<B64 ^ k) (k4:ak m2<B64 ^ k) (e1:ak m1≠0) (e2:ak m2≠0) :
  Calls Tryz.prog 20 #[.agg #[.bool t1,.int .u64 x1,.slice p1 l1 q1,.int .u64 y1,.slice r1 s1 v1],.agg #[.bool t2,.int .u64 x2,.slice p2 l2 q2,.int .u64 y2,.slice r2 s2 v2]] w (aY w (mkRat (zs t1 n1) (ak m1)+mkRat (zs t2 n2) (ak m2))):=by
 have ss:=OT t1 t2 (n1*(ak m2 / Nat.gcd (ak m1) (ak m2))) (n2*(ak m1 / Nat.gcd (ak m1) (ak m2)))
 obtain ⟨P1,P2,P3,P4,P5⟩:=Qo _ t1 t2 _ n1 (ak m1) n2 (ak m2) o1 o2 e1 e2 ss.1
 have lt:∀ {a b K:Nat},a<B64 ^ K→a / b<B64 ^ K:=fun h=>Nat.lt_of_le_of_lt (Nat.div_le_self _ _) h
 have kp1:=uw k1 (lt (b:=Nat.gcd (ak m1) (ak m2)) k4)
 have kp2:=uw k3 (lt (b:=Nat.gcd (ak m1) (ak m2)) k2)
 have kN:=Nat.lt_of_le_of_lt ss.2.1 (Xw kp1 kp2)
 have kc:Nat.gcd (ak m1) (ak m2)<B64 ^ (k+k+1):=Nat.lt_of_lt_of_le (Nat.lt_of_le_of_lt (Nat.le_of_dvd (Nat.pos_of_ne_zero e1) (Nat.gcd_dvd_left _ _)) k2) (Nat.pow_le_pow_right (by decide) (by omega))
 generalize hsB:mV t1 (n1*(ak m2 / Nat.gcd (ak m1) (ak m2))) t2 (n2*(ak m1 / Nat.gcd (ak m1) (ak m2)))=sB at *
 generalize hsN:kZ t1 (n1*(ak m2 / Nat.gcd (ak m1) (ak m2))) t2 (n2*(ak m1 / Nat.gcd (ak m1) (ak m2)))=sN at *
 generalize hc:Nat.gcd (ak m1) (ak m2)=c at *
 generalize hg:Nat.gcd sN c=g at *
 refine Rx.rG (β:=Rx.bt [n1,m1,n2,m2,ak m1,ak m2,c,ak m1 / c,ak m2 / c,n1*(ak m2 / c),n2*(ak m1 / c),sN,g,sN / g,ak m2 / g,ak m1 / c*(ak m2 / g)]) i1 j1 i2 j2 fun _ hg'=>Rx.mO Rx.jy (fun e he=>?_) (Rx.Qq _ _ t1 t2 sB (m1 == 0) (m2 == 0) (by
  by_cases h:m1=0
  ·rw [show (m2 == 0)=false from beq_eq_false_iff_ne.2 (wmm h),Bool.and_false]
  ·rw [show (m1 == 0)=false from beq_eq_false_iff_ne.2 h,Bool.false_and])) (fun h=>by cases h) (Rx.tab_below hT) hg'
 simp only [Rx.IQ,List.mem_cons,List.not_mem_nil,or_false] at he
 rcases he with rfl | rfl | rfl | rfl | rfl | rfl | rfl | rfl | rfl | rfl | rfl | rfl | rfl | rfl | rfl | rfl | rfl
 ·exact Rx.jU (Rx.pG h1)
 ·exact Rx.jU (Rx.pG h2)
 ·exact Rx.yY rfl
 ·exact Rx.yY rfl
 ·exact Rx.nX rfl
 ·exact Rx.nX rfl
 ·exact Rx.yV (K:=k) hc (by omega) k2 k4
 ·exact Rx.nV (K:=k) rfl P1 (by omega) k2
 ·exact Rx.nV (K:=k) rfl P1 (by omega) k4
 ·exact Rx.qw (K:=k) rfl (by omega) k1 (lt k4)
 ·exact Rx.qw (K:=k) rfl (by omega) k3 (lt k2)
 ·exact Rx.JY (K:=k+k) hsB hsN (by omega) kp1 kp2
 ·exact Rx.yV (K:=k+k+1) hg (by omega) kN kc
 ·exact Rx.nV (K:=k+k+1) rfl P2 (by omega) kN
 ·exact Rx.nV (K:=k) rfl P2 (by omega) k4
 ·exact Rx.qw (K:=k) rfl (by omega) (lt k2) (lt k4)
 ·exact Rx.EF P3 P4 P5
theorem JM (r:Rat) (h:bM r=0):r=(r.num:Rat):=by
 have h1:r.den=1:=by
  unfold bM at h
  by_cases h2:r.den=1
  ·exact h2
  ·rw [if_neg h2] at h
   exact absurd h r.den_nz
 exact Rat.ext rfl h1
theorem rP (r s:Rat) (v1 v2:Value) (k:Nat) (w:World) (h1:IsQ w v1 r) (h2:IsQ w v2 s) (hk:k≤17179869184) (f1:Fits k r) (f2:Fits k s) (hT:Tab w) :
  Calls Tryz.prog 20 #[v1,v2] w (aY w (r+s)):=by
 obtain ⟨t1,x1,p1,l1,q1,y1,r1,s1,u1,rfl,i1,j1,e1⟩:=h1.shape
 obtain ⟨t2,x2,p2,l2,q2,y2,r2,s2,u2,rfl,i2,j2,e2⟩:=h2.shape
 have e1':=e1.out
 have e2':=e2.out
 by_cases z1:r=0
 ·have:=Qs t1 t2 x1 y1 x2 y2 p1 r1 p2 r2 l1 q1 s1 u1 l2 q2 s2 u2 _ _ _ _ w i1 j1 i2 j2 hT s rfl rfl e2 (by rw [e1'];exact (kX r).2 z1)
  rw [z1,Rat.zero_add]
  exact this
 have n1:sgn t1 r.num.natAbs≠0:=by rw [e1'];exact fun h=>z1 ((kX r).1 h)
 by_cases z2:s=0
 ·have:=Qu t1 t2 x1 y1 x2 y2 p1 r1 p2 r2 l1 q1 s1 u1 l2 q2 s2 u2 _ _ _ _ w i1 j1 i2 j2 hT r rfl rfl e1 n1 (by rw [e2'];exact (kX s).2 z2)
  rw [z2,Rat.add_zero]
  exact this
 have n2:sgn t2 s.num.natAbs≠0:=by rw [e2'];exact fun h=>z2 ((kX s).1 h)
 by_cases d1:bM r=0
 ·by_cases d2:bM s=0
  ·have:=Qr t1 t2 x1 y1 x2 y2 p1 r1 p2 r2 l1 q1 s1 u1 l2 q2 s2 u2 _ _ _ _ k w i1 j1 i2 j2 hT n1 n2 d1 d2 (by omega) f1.1 f2.1 (by rw [e1'];intro h;have:=of_decide_eq_true h;omega) (by rw [e2'];intro h;have:=of_decide_eq_true h;omega)
   rw [e1',e2',BM,BM,Rat.intCast_add,← JM r d1,← JM s d2] at this
   rw [e1',e2']
   exact this
  ·have:=IV t1 t2 x1 y1 x2 y2 p1 r1 p2 r2 l1 q1 s1 u1 l2 q2 s2 u2 _ _ _ _ k w i1 j1 i2 j2 hT n1 n2 (fun _=>d2) (by rw [bW];exact r.reduced) (by rw [bW];exact s.reduced) hk f1.1 (by rw [bW];exact f1.2) f2.1 (by rw [bW];exact f2.2) (by rw [bW];exact r.den_nz) (by rw [bW];exact s.den_nz)
   rw [e1',e2',uM,uM] at this
   rw [e1',e2']
   exact this
 ·have:=IV t1 t2 x1 y1 x2 y2 p1 r1 p2 r2 l1 q1 s1 u1 l2 q2 s2 u2 _ _ _ _ k w i1 j1 i2 j2 hT n1 n2 (fun h=>absurd h d1) (by rw [bW];exact r.reduced) (by rw [bW];exact s.reduced) hk f1.1 (by rw [bW];exact f1.2) f2.1 (by rw [bW];exact f2.2) (by rw [bW];exact r.den_nz) (by rw [bW];exact s.den_nz)
  rw [e1',e2',uM,uM] at this
  rw [e1',e2']
  exact this
end
end Go.Proofs.YthalajpklaodkaaGreatDoor
