/- What the proof rests on, part 17. -/
import Derived.Test.YtancpaiaoamjlaaGreatDoorZ16
import Derived.Test.YtancpaiaoamjlaaGreatDoorZ05
namespace Go.Proofs.YtancpaiaoamjlaaGreatDoor
set_option maxRecDepth 100000
set_option maxHeartbeats 80000000
section
theorem bV (r:Rat):au (bM r)=r.den:=by
 unfold au bM
 by_cases h:r.den=1
 ·rw [if_pos h,if_pos rfl,h]
 ·rw [if_neg h,if_neg r.den_nz]
theorem uK (r:Rat):mkRat (zs (decide (r.num<0)) r.num.natAbs) (au (bM r))=r:=by
 rw [AX,bV,Rat.mkRat_self]
theorem lI (r:Rat):sgn (decide (r.num<0)) r.num.natAbs=0↔r=0:=by
 unfold sgn
 constructor
 ·intro h
  by_cases h1:r.num<0
  ·simp [h1] at h
  ·rw [if_neg (by simpa using h1)] at h
   have h2:r.num.natAbs=0:=by
    by_cases h3:r.num.natAbs=0
    ·exact h3
    ·simp [h3] at h
   exact Rat.num_eq_zero.1 (show r.num=0 by omega)
 ·intro h
  subst h
  rfl
namespace Rx
open Go.RowKit
def bt (L:List Nat):Nat→Nat:=fun n=>L.getD n 0
def em (L:List Nv):Env:=fun n=>L.getD n default
abbrev nC (t:Bool) (s s':Nat):SV:=.e (.a [.bl t,.ou s,.os s,.ou s',.os s'])
abbrev nN (t:Bool) (i j:Nat):Pt:=.c [.b t,.m i,.m j]
theorem jG {β:Nat→Nat}:∀ p∈([]:List (Nat×Nat)),β p.1=p.2∧p.2<B64:=fun p h=>by cases h
section
variable {β:Nat→Nat} {r:Rat} {t1 t2:Bool} {x1 y1 x2 y2:Int} {p1 r1 p2 r2:Option Addr} {l1 q1 s1 v1 l2 q2 s2 v2:Nat} {w:World}
theorem rJ {f:FuncId} {R:Ending→World→Prop} (i1:ah w (.int .u64 x1) (.slice p1 l1 q1) (β 0)) (j1:ah w (.int .u64 y1) (.slice r1 s1 v1) (β 1)) (i2:ah w (.int .u64 x2) (.slice p2 l2 q2) (β 2)) (j2:ah w (.int .u64 y2) (.slice r2 s2 v2) (β 3))
  (go:∀ ρ:Env,(∀ g∈[Fm.m 0 0,.m 1 1,.m 2 2,.m 3 3],Fm.on β r ρ g w)→Calls Tryz.prog f ([nC t1 0 1,nC t2 2 3].map (SV.den ρ)).toArray w R):Calls Tryz.prog f #[.agg #[.bool t1,.int .u64 x1,.slice p1 l1 q1,.int .u64 y1,.slice r1 s1 v1],.agg #[.bool t2,.int .u64 x2,.slice p2 l2 q2,.int .u64 y2,.slice r2 s2 v2]] w R:=by
 refine go (em [⟨false,x1,p1,l1,q1,.empty,0,default⟩,⟨false,y1,r1,s1,v1,.empty,0,default⟩,⟨false,x2,p2,l2,q2,.empty,0,default⟩,⟨false,y2,r2,s2,v2,.empty,0,default⟩]) fun g hg=>?_
 simp only [List.mem_cons,List.not_mem_nil,or_false] at hg
 rcases hg with rfl | rfl | rfl | rfl
 ·exact i1
 ·exact j1
 ·exact i2
 ·exact j2
abbrev f4:List Fm:=[.m 0 0,.m 1 1,.m 2 2,.m 3 3]
def eS (t:Bool) (i j:Nat) (n:Int):En:=⟨7,[nN t i j],.i n⟩
def eU (t:Bool) (i j k:Nat):En:=⟨44,[nN t i j],.c [.m k]⟩
def eG (i j k:Nat):En:=⟨45,[.c [.m i],.c [.m j]],.c [.m k]⟩
def eO (i j k:Nat):En:=⟨46,[.c [.m i],.c [.m j]],.c [.m k]⟩
def eT (i j k:Nat):En:=⟨47,[.c [.m i],.c [.m j]],.c [.m k]⟩
def eL (t:Bool) (i j:Nat):En:=⟨48,[.c [.b t,.m i],.c [.m j]],.c [.q]⟩
theorem kC {T:World→Prop} {t:Bool} {i j:Nat} {n:Int} (h:sgn t (β i)=n):(eS t i j n).Ok T β r:=TF h
theorem nZ {T:World→Prop} {t:Bool} {i j k:Nat} (h:au (β j)=β k):(eU t i j k).Ok T β r:=TG h
theorem yJ {i j k K:Nat} (h:Nat.gcd (β i) (β j)=β k) (hK:K≤68719476736) (h1:β i<B64 ^ K) (h2:β j<B64 ^ K):(eG i j k).Ok Tab β r:=vS fun c d e g W a b hT=>h ▸ KR _ _ K c d e g W a b hK h1 h2 hT
theorem nY {T:World→Prop} {i j k K:Nat} (h:β i / β j=β k) (h0:β j≠0) (hK:K≤137438953472) (h1:β i<B64 ^ K):(eO i j k).Ok T β r:=vS fun c d e g W a b _=>h ▸ wI _ _ K c d e g W a b (Nat.pos_of_ne_zero h0) hK h1
theorem qo {T:World→Prop} {i j k K:Nat} (h:β i*β j=β k) (hK:K≤68719476736) (h1:β i<B64 ^ K) (h2:β j<B64 ^ K):(eT i j k).Ok T β r:=vS fun c d e g W a b _=>h ▸ EY _ _ K c d e g W a b hK h1 h2
theorem Ei {T:World→Prop} {t:Bool} {i j:Nat} (hc:Nat.Coprime (β i) (β j)) (hm:β j≠0) (hr:mkRat (zs t (β i)) (β j)=r):(eL t i j).Ok T β r:=TA hc hm hr
def sg (t:Bool):Int:=if t then -1 else 1
theorem pF {t:Bool} {n:Nat} (h:sgn t n≠0):sgn t n=sg t:=by
 cases t
 ·unfold sgn at *
  rw [if_neg (by decide)] at *
  split
  ·rename_i h2;rw [if_pos h2] at h;exact absurd rfl h
  ·rfl
 ·rfl
def Lc (t1 t2:Bool):List En:=[eS t1 0 1 (sg t1),eS t2 2 3 (sg t2),eU t1 0 1 4,eU t2 2 3 5,eG 0 5 6,eG 2 4 7,eO 0 6 8,eO 2 7 9,eT 8 9 10,eO 4 7 11,eO 5 6 12,eT 11 12 13,eL (t1 != t2) 10 13]
theorem WE (β:Nat→Nat) (r:Rat) (t1 t2:Bool):isW true (bg Tryz.prog (SM β r) (HM β r) ([eS t1 0 1 0].map (dO β r [])) 1 19 [nC t1 0 1,nC t2 2 3] f4 4)=true:=by cases t1 <;> kernel_rfl
theorem WH (β:Nat→Nat) (r:Rat) (t1 t2:Bool):isW true (bg Tryz.prog (SM β r) (HM β r) ([eS t1 0 1 (sg t1),eS t2 2 3 0].map (dO β r [])) 1 19 [nC t1 0 1,nC t2 2 3] f4 4)=true:=by
 cases t1 <;> cases t2 <;> kernel_rfl
theorem WI (β:Nat→Nat) (r:Rat) (t1 t2:Bool):isW false (bg Tryz.prog (SM β r) (HM β r) ((Lc t1 t2).map (dO β r [])) 1 19 [nC t1 0 1,nC t2 2 3] f4 4)=true:=by
 cases t1 <;> cases t2 <;> kernel_rfl
end
end Rx
theorem WJ (t1 t2:Bool) (x1 y1 x2 y2:Int) (p1 r1 p2 r2:Option Addr) (l1 q1 s1 v1 l2 q2 s2 v2 n1 m1 n2 m2:Nat) (w:World)
  (i1:ah w (.int .u64 x1) (.slice p1 l1 q1) n1) (j1:ah w (.int .u64 y1) (.slice r1 s1 v1) m1) (i2:ah w (.int .u64 x2) (.slice p2 l2 q2) n2) (j2:ah w (.int .u64 y2) (.slice r2 s2 v2) m2) (hT:Tab w) (h1:sgn t1 n1=0) :
  Calls Tryz.prog 19 #[.agg #[.bool t1,.int .u64 x1,.slice p1 l1 q1,.int .u64 y1,.slice r1 s1 v1],.agg #[.bool t2,.int .u64 x2,.slice p2 l2 q2,.int .u64 y2,.slice r2 s2 v2]] w (bC w 0):=
 Rx.rJ (β:=Rx.bt [n1,m1,n2,m2]) i1 j1 i2 j2 fun _ hg=>Rx.ng Rx.jG (fun e he=>by
  obtain rfl:=List.mem_singleton.1 he
  exact Rx.kC h1) (Rx.WE _ _ _ _) (fun _=>rfl) (Rx.tab_below hT) hg
theorem WL (t1 t2:Bool) (x1 y1 x2 y2:Int) (p1 r1 p2 r2:Option Addr) (l1 q1 s1 v1 l2 q2 s2 v2 n1 m1 n2 m2:Nat) (w:World)
  (i1:ah w (.int .u64 x1) (.slice p1 l1 q1) n1) (j1:ah w (.int .u64 y1) (.slice r1 s1 v1) m1) (i2:ah w (.int .u64 x2) (.slice p2 l2 q2) n2) (j2:ah w (.int .u64 y2) (.slice r2 s2 v2) m2) (hT:Tab w) (h1:sgn t1 n1≠0) (h2:sgn t2 n2=0) :
  Calls Tryz.prog 19 #[.agg #[.bool t1,.int .u64 x1,.slice p1 l1 q1,.int .u64 y1,.slice r1 s1 v1],.agg #[.bool t2,.int .u64 x2,.slice p2 l2 q2,.int .u64 y2,.slice r2 s2 v2]] w (bC w 0):=
 Rx.rJ (β:=Rx.bt [n1,m1,n2,m2]) i1 j1 i2 j2 fun _ hg=>Rx.ng Rx.jG (fun e he=>by
  simp only [List.mem_cons,List.not_mem_nil,or_false] at he
  rcases he with rfl | rfl
  ·exact Rx.kC (Rx.pF h1)
  ·exact Rx.kC h2) (Rx.WH _ _ _ _) (fun _=>rfl) (Rx.tab_below hT) hg
theorem WA (t1 t2:Bool) (x1 y1 x2 y2:Int) (p1 r1 p2 r2:Option Addr) (l1 q1 s1 v1 l2 q2 s2 v2 n1 m1 n2 m2 k:Nat) (w:World)
  (i1:ah w (.int .u64 x1) (.slice p1 l1 q1) n1) (j1:ah w (.int .u64 y1) (.slice r1 s1 v1) m1) (i2:ah w (.int .u64 x2) (.slice p2 l2 q2) n2) (j2:ah w (.int .u64 y2) (.slice r2 s2 v2) m2) (hT:Tab w) (h1:sgn t1 n1≠0) (h2:sgn t2 n2≠0) (o1:Nat.Coprime n1 (au m1)) (o2:Nat.Coprime n2 (au m2)) (hk:k≤34359738368) (k1:n1<B64 ^ k) (k2:au m1<B64 ^ k) (k3:n2<B64 ^ k) (k4:au m2<B64 ^ k) (e1:au m1≠0) (e2:au m2≠0) :
  Calls Tryz.prog 19 #[.agg #[.bool t1,.int .u64 x1,.slice p1 l1 q1,.int .u64 y1,.slice r1 s1 v1],.agg #[.bool t2,.int .u64 x2,.slice p2 l2 q2,.int .u64 y2,.slice r2 s2 v2]] w (bC w (mkRat (zs t1 n1) (au m1)*mkRat (zs t2 n2) (au m2))):=by
 obtain ⟨P1,P2,P3,P4,P5⟩:=WC t1 t2 n1 (au m1) n2 (au m2) o1 o2 e1 e2
 refine Rx.rJ (β:=Rx.bt [n1,m1,n2,m2,au m1,au m2,Nat.gcd n1 (au m2),Nat.gcd n2 (au m1),n1 / Nat.gcd n1 (au m2),n2 / Nat.gcd n2 (au m1),n1 / Nat.gcd n1 (au m2)*(n2 / Nat.gcd n2 (au m1)),au m1 / Nat.gcd n2 (au m1),au m2 / Nat.gcd n1 (au m2),au m1 / Nat.gcd n2 (au m1)*(au m2 / Nat.gcd n1 (au m2))]) i1 j1 i2 j2 fun _ hg=>Rx.ng Rx.jG (fun e he=>?_) (Rx.WI _ _ _ _) (fun h=>by cases h) (Rx.tab_below hT) hg
 have lt:∀ {a b:Nat},a<B64 ^ k→a / b<B64 ^ k:=fun h=>Nat.lt_of_le_of_lt (Nat.div_le_self _ _) h
 simp only [Rx.Lc,List.mem_cons,List.not_mem_nil,or_false] at he
 rcases he with rfl | rfl | rfl | rfl | rfl | rfl | rfl | rfl | rfl | rfl | rfl | rfl | rfl
 ·exact Rx.kC (Rx.pF h1)
 ·exact Rx.kC (Rx.pF h2)
 ·exact Rx.nZ rfl
 ·exact Rx.nZ rfl
 ·exact Rx.yJ (K:=k) rfl (by omega) k1 k4
 ·exact Rx.yJ (K:=k) rfl (by omega) k3 k2
 ·exact Rx.nY (K:=k) rfl P1 (by omega) k1
 ·exact Rx.nY (K:=k) rfl P2 (by omega) k3
 ·exact Rx.qo (K:=k) rfl (by omega) (lt k1) (lt k3)
 ·exact Rx.nY (K:=k) rfl P2 (by omega) k2
 ·exact Rx.nY (K:=k) rfl P1 (by omega) k4
 ·exact Rx.qo (K:=k) rfl (by omega) (lt k2) (lt k4)
 ·exact Rx.Ei P3 P4 P5
theorem nK (r s:Rat) (v1 v2:Value) (k:Nat) (w:World) (h1:IsQ w v1 r) (h2:IsQ w v2 s) (hk:k≤34359738368) (f1:Fits k r) (f2:Fits k s) (hT:Tab w) :
  Calls Tryz.prog 19 #[v1,v2] w (bC w (r*s)):=by
 obtain ⟨t1,x1,p1,l1,q1,y1,r1,s1,u1,rfl,i1,j1,e1⟩:=h1.shape
 obtain ⟨t2,x2,p2,l2,q2,y2,r2,s2,u2,rfl,i2,j2,e2⟩:=h2.shape
 have e1':=e1.out
 have e2':=e2.out
 by_cases z1:r=0
 ·have:=WJ t1 t2 x1 y1 x2 y2 p1 r1 p2 r2 l1 q1 s1 u1 l2 q2 s2 u2 _ _ _ _ w i1 j1 i2 j2 hT (by rw [e1'];exact (lI r).2 z1)
  rw [z1,Rat.zero_mul]
  exact this
 have n1:sgn t1 r.num.natAbs≠0:=by rw [e1'];exact fun h=>z1 ((lI r).1 h)
 by_cases z2:s=0
 ·have:=WL t1 t2 x1 y1 x2 y2 p1 r1 p2 r2 l1 q1 s1 u1 l2 q2 s2 u2 _ _ _ _ w i1 j1 i2 j2 hT n1 (by rw [e2'];exact (lI s).2 z2)
  rw [z2,Rat.mul_zero]
  exact this
 have n2:sgn t2 s.num.natAbs≠0:=by rw [e2'];exact fun h=>z2 ((lI s).1 h)
 have:=WA t1 t2 x1 y1 x2 y2 p1 r1 p2 r2 l1 q1 s1 u1 l2 q2 s2 u2 _ _ _ _ k w i1 j1 i2 j2 hT n1 n2 (by rw [bV];exact r.reduced) (by rw [bV];exact s.reduced) hk f1.1 (by rw [bV];exact f1.2) f2.1 (by rw [bV];exact f2.2) (by rw [bV];exact r.den_nz) (by rw [bV];exact s.den_nz)
 rw [e1',e2',uK,uK] at this
 rw [e1',e2']
 exact this
end
section
open Go.RowKit Go.Sort
def Hw (w:World) (b:Bool) (n:Nat) (e:Ending) (w':World):Prop:=∃ x p l q,e=.returned (.agg #[.bool b,.int .u64 x,.slice p l q])∧ah w' (.int .u64 x) (.slice p l q) n∧Below w.heap.size w w'
def ni (t1:Bool) (n1:Nat) (t2:Bool) (n2:Nat):Bool:=if t1=t2 then t1 else if n1=n2 then false else if n2<n1 then t1 else t2
def lK (t1:Bool) (n1:Nat) (t2:Bool) (n2:Nat):Nat:=if t1=t2 then n1+n2 else n1 - n2+(n2 - n1)
theorem Ob (t1 t2:Bool) (n1 n2:Nat):zs (ni t1 n1 t2 n2) (lK t1 n1 t2 n2)=zs t1 n1+zs t2 n2∧lK t1 n1 t2 n2≤n1+n2∧((t1=true→n1≠0)→(t2=true→n2≠0)→ni t1 n1 t2 n2=true→lK t1 n1 t2 n2≠0):=by
 unfold ni lK
 by_cases h1:n1=n2
 ·cases t1 <;> cases t2 <;> simp [zs,h1] <;> omega
 ·by_cases h2:n2<n1
  ·cases t1 <;> cases t2 <;> simp [zs,h1,h2] <;> omega
  ·cases t1 <;> cases t2 <;> simp [zs,h1,h2] <;> omega
namespace Rx
def eP (i j k:Nat):En:=⟨76,[.c [.m i],.c [.m j]],.c [.m k]⟩
def eM (i j k:Nat):En:=⟨77,[.c [.m i],.c [.m j]],.c [.m k]⟩
def eC (i j:Nat) (n:Int):En:=⟨54,[.c [.m i],.c [.m j]],.i n⟩
abbrev sC (t:Bool) (s:Nat):SV:=.e (.a [.bl t,.ou s,.os s])
section
variable {β:Nat→Nat} {r:Rat}
theorem Jy {T:World→Prop} {i j k K:Nat} (h:β i+β j=β k) (hK:K≤137438953472) (h1:β i<B64 ^ K) (h2:β j<B64 ^ K):(eP i j k).Ok T β r:=vS fun c d e g W a b _=>h ▸ EX _ _ K c d e g W a b hK h1 h2
theorem Jw {T:World→Prop} {i j k K:Nat} (h:β i - β j=β k) (hl:β j≤β i) (hK:K≤137438953472) (h1:β i<B64 ^ K):(eM i j k).Ok T β r:=vS fun c d e g W a b _=>h ▸ V3 _ _ K c d e g W a b hl hK h1
theorem yI {T:World→Prop} {i j K:Nat} {n:Int} (h:aG (β i) (β j)=n) (hK:K≤274877906944) (h1:β i<B64 ^ K):(eC i j n).Ok T β r:=TB fun c d e g W a b=>h ▸ KL _ _ K c d e g W a b hK h1
theorem xH (β:Nat→Nat) (r:Rat) (t:Bool) :
  qJ t 2 [] (bg Tryz.prog (SM β r) (HM β r) ([eP 0 1 2].map (dO β r [])) 1 43 [sC t 0,sC t 1] [.m 0 0,.m 1 1] 2)=true ∧
  qJ t 2 [] (bg Tryz.prog (SM β r) (HM β r) ([eC 0 1 1,eM 0 1 2].map (dO β r [])) 1 43 [sC t 0,sC (!t) 1] [.m 0 0,.m 1 1] 2)=true ∧
  qJ (!t) 2 [] (bg Tryz.prog (SM β r) (HM β r) ([eC 0 1 (-1),eM 1 0 2].map (dO β r [])) 1 43 [sC t 0,sC (!t) 1] [.m 0 0,.m 1 1] 2)=true ∧
  qJ false 2 [(2,0)] (bg Tryz.prog (SM β r) (HM β r) ([eC 0 1 0].map (dO β r [(2,0)])) 1 43 [sC t 0,sC (!t) 1] [.m 0 0,.m 1 1] 2)=true:=by
 cases t <;> exact ⟨by kernel_rfl,by kernel_rfl,by kernel_rfl,by kernel_rfl⟩
end
end Rx
theorem PK (t1 t2:Bool) (c1 d1 c2 d2:Value) (n1 n2 k:Nat) (w:World) (i1:ah w c1 d1 n1) (i2:ah w c2 d2 n2) (hk:k≤137438953472) (k1:n1<B64 ^ k) (k2:n2<B64 ^ k) :
  Calls Tryz.prog 43 #[.agg #[.bool t1,c1,d1],.agg #[.bool t2,c2,d2]] w (Hw w (ni t1 n1 t2 n2) (lK t1 n1 t2 n2)):=by
 obtain ⟨x1,p1,l1,q1,rfl,rfl⟩:=i1.shape
 obtain ⟨x2,p2,l2,q2,rfl,rfl⟩:=i2.shape
 obtain ⟨ρ,hρ⟩:∃ ρ,ρ=Rx.em [⟨false,x1,p1,l1,q1,.empty,0,default⟩,⟨false,x2,p2,l2,q2,.empty,0,default⟩]:=⟨_,rfl⟩
 have hf:∀ m:Nat,∀ g∈[Rx.Fm.m 0 0,.m 1 1],Rx.Fm.on (Rx.bt [n1,n2,m]) 0 ρ g w:=fun m g hg=>by
  simp only [List.mem_cons,List.not_mem_nil,or_false] at hg
  rw [hρ]
  rcases hg with rfl | rfl
  ·exact i1
  ·exact i2
 have ret:∀ {s:Bool} {m:Nat} {e:Ending} {W:World},(∃ c d,e=.returned (.agg #[.bool s,c,d])∧ah W c d m∧Below w.heap.size w W)→Hw w s m e W:=fun ⟨c,d,he,hm,hb⟩=>by
  obtain ⟨x,p,l,q,rfl,rfl⟩:=hm.shape
  exact ⟨x,p,l,q,he,hm,hb⟩
 have he:∀ a b:Bool,([Rx.sC a 0,Rx.sC b 1].map (Rx.SV.den ρ)).toArray=#[.agg #[.bool a,.int .u64 x1,.slice p1 l1 q1],.agg #[.bool b,.int .u64 x2,.slice p2 l2 q2]]:=fun a b=>by rw [hρ];rfl
 unfold ni lK
 by_cases h:t1=t2
 ·subst h
  rw [if_pos rfl,if_pos rfl,← he]
  exact (Rx.Ak (T:=fun _=>True) (β:=Rx.bt [n1,n2,n1+n2]) (r:=0) Rx.jG (fun e he=>by
   obtain rfl:=List.mem_singleton.1 he
   exact Rx.Jy (K:=k) rfl hk k1 k2) (Rx.xH _ _ t1).1 (fun _ _=>trivial) (hf _)).mono fun _ _=>ret
 ·obtain rfl:t2 = !t1:=by cases t1 <;> cases t2 <;> simp_all
  rw [if_neg h,if_neg h,← he]
  rcases Nat.lt_trichotomy n1 n2 with h1 | h1 | h1
  ·rw [if_neg (by omega),if_neg (by omega),show n1 - n2+(n2 - n1)=n2 - n1 by omega]
   exact (Rx.Ak (T:=fun _=>True) (β:=Rx.bt [n1,n2,n2 - n1]) (r:=0) Rx.jG (fun e he=>by
    simp only [List.mem_cons,List.not_mem_nil,or_false] at he
    rcases he with rfl | rfl
    ·exact Rx.yI (K:=k) (by show aG n1 n2 = -1;unfold aG;rw [if_pos h1]) (by omega) k1
    ·exact Rx.Jw (K:=k) rfl (Nat.le_of_lt h1) hk k2) (Rx.xH _ _ t1).2.2.1 (fun _ _=>trivial) (hf _)).mono fun _ _=>ret
  ·rw [if_pos h1,show n1 - n2+(n2 - n1)=0 by omega]
   exact (Rx.Ak (T:=fun _=>True) (β:=Rx.bt [n1,n2,0]) (r:=0) (fun p hp=>by obtain rfl:=List.mem_singleton.1 hp;exact ⟨rfl,by decide⟩) (fun e he=>by
    obtain rfl:=List.mem_singleton.1 he
    exact Rx.yI (K:=k) (by show aG n1 n2=0;unfold aG;rw [if_neg (by omega),if_pos h1]) (by omega) k1) (Rx.xH _ _ t1).2.2.2 (fun _ _=>trivial) (hf _)).mono fun _ _=>ret
  ·rw [if_neg (by omega),if_pos h1,show n1 - n2+(n2 - n1)=n1 - n2 by omega]
   exact (Rx.Ak (T:=fun _=>True) (β:=Rx.bt [n1,n2,n1 - n2]) (r:=0) Rx.jG (fun e he=>by
    simp only [List.mem_cons,List.not_mem_nil,or_false] at he
    rcases he with rfl | rfl
    ·exact Rx.yI (K:=k) (by show aG n1 n2=1;unfold aG;rw [if_neg (by omega),if_neg (by omega)]) (by omega) k1
    ·exact Rx.Jw (K:=k) rfl (Nat.le_of_lt h1) hk k1) (Rx.xH _ _ t1).2.1 (fun _ _=>trivial) (hf _)).mono fun _ _=>ret
end
section
theorem Jb {a b:Nat} {x y z:Int} (h:z=x*b+y*a) (hx:Nat.Coprime x.natAbs a) (hb:Nat.Coprime b a):Nat.Coprime z.natAbs a:=by
 have h1:Nat.Coprime (x.natAbs*b) a:=Nat.Coprime.mul_left hx hb
 have h2:(x*b).natAbs=x.natAbs*b:=by rw [Int.natAbs_mul,Int.natAbs_natCast]
 have h3:Int.gcd z a=Int.gcd (x*b) a:=by rw [h,Int.gcd_add_mul_right_left]
 have h4:Int.gcd z a=Nat.gcd z.natAbs a:=rfl
 have h5:Int.gcd (x*b) a=Nat.gcd (x*b).natAbs a:=rfl
 unfold Nat.Coprime at *
 rw [← h4,h3,h5,h2]
 exact h1
theorem Py (b t1 t2:Bool) (n n1 d1 n2 d2:Nat) (h1:Nat.Coprime n1 d1) (h2:Nat.Coprime n2 d2) (e1:d1≠0) (e2:d2≠0)
  (hz:zs b n=zs t1 (n1*(d2 / Nat.gcd d1 d2))+zs t2 (n2*(d1 / Nat.gcd d1 d2))) :
  Nat.gcd d1 d2≠0∧Nat.gcd n (Nat.gcd d1 d2)≠0∧Nat.Coprime (n / Nat.gcd n (Nat.gcd d1 d2)) (d1 / Nat.gcd d1 d2*(d2 / Nat.gcd n (Nat.gcd d1 d2)))∧d1 / Nat.gcd d1 d2*(d2 / Nat.gcd n (Nat.gcd d1 d2))≠0 ∧
  mkRat (zs b (n / Nat.gcd n (Nat.gcd d1 d2))) (d1 / Nat.gcd d1 d2*(d2 / Nat.gcd n (Nat.gcd d1 d2)))=mkRat (zs t1 n1) d1+mkRat (zs t2 n2) d2:=by
 obtain ⟨c0,c1,c2⟩:=tV d1 d2 e2
 have ca:=Nat.gcd_dvd_left d1 d2
 have cb:=Nat.gcd_dvd_right d1 d2
 generalize Nat.gcd d1 d2=c at *
 obtain ⟨a,rfl⟩:=ca
 obtain ⟨b',rfl⟩:=cb
 rw [Nat.mul_div_cancel_left _ (by omega)] at *
 rw [Nat.mul_div_cancel_left _ (by omega)] at *
 obtain ⟨g0,g1,g2⟩:=tV n c c0
 have ga:=Nat.gcd_dvd_left n c
 have gb:=Nat.gcd_dvd_right n c
 generalize Nat.gcd n c=g at *
 obtain ⟨m,rfl⟩:=ga
 obtain ⟨c',rfl⟩:=gb
 rw [Nat.mul_div_cancel_left _ (by omega)] at *
 rw [Nat.mul_div_cancel_left _ (by omega)] at *
 have hdv:g*c' * b' / g=c' * b':=by rw [Nat.mul_assoc,Nat.mul_div_cancel_left _ (by omega)]
 rw [hdv]
 have hb0:b'≠0:=c2
 have ha0:a≠0:=fun e=>e1 (by rw [e,Nat.mul_zero])
 have k1:Nat.Coprime n1 a:=sS h1 (Nat.dvd_refl _) (Nat.dvd_mul_left _ _)
 have k2:Nat.Coprime n2 b':=sS h2 (Nat.dvd_refl _) (Nat.dvd_mul_left _ _)
 rw [wZ t1,wZ t2] at hz
 have z1:=Jb (a:=a) (b:=b') (x:=zs t1 n1) (y:=zs t2 n2) hz (by rw [pI];exact k1) (Nat.Coprime.symm c1)
 have z2:=Jb (z:=zs b (g*m)) (a:=b') (b:=a) (x:=zs t2 n2) (y:=zs t1 n1) (by rw [hz,Int.add_comm]) (by rw [pI];exact k2) c1
 rw [pI] at z1 z2
 have m1:Nat.Coprime m a:=sS z1 (Nat.dvd_mul_left _ _) (Nat.dvd_refl _)
 have m2:Nat.Coprime m b':=sS z2 (Nat.dvd_mul_left _ _) (Nat.dvd_refl _)
 have hd:a*(c' * b')≠0:=Nat.mul_ne_zero ha0 (Nat.mul_ne_zero g2 hb0)
 refine ⟨c0,g0,Nat.Coprime.mul_right m1 (Nat.Coprime.mul_right g1 m2),hd,?_⟩
 rw [Rat.mkRat_add_mkRat _ _ e1 e2,Rat.mkRat_eq_iff hd (Nat.mul_ne_zero e1 e2)]
 rw [Nat.mul_comm g m,wZ] at hz
 generalize zs b m=z at *
 generalize zs t1 n1=x at *
 generalize zs t2 n2=y at *
 clear z1 z2 m1 m2 k1 k2 h1 h2 c1 g1
 have:z*(g:Int)=x*(b':Int)+y*(a:Int):=hz
 push_cast
 generalize (a:Int)=A at *
 generalize (b':Int)=Bb at *
 generalize (c':Int)=C at *
 generalize (g:Int)=G at *
 grind
end
section
open Go.RowKit Go.Sort
theorem VI {a b k:Nat} (ha:a<B64 ^ k) (hb:b<B64 ^ k):a+b<B64 ^ (k+1):=by
 rw [Nat.pow_succ]
 have:2≤B64:=by decide
 have:=Nat.mul_le_mul_left (B64 ^ k) this
 omega
namespace Rx
def eW (t:Bool) (i j:Nat) (x:Bool):En:=⟨42,[nN t i j],.b x⟩
def eA (t t' s:Bool) (i j k:Nat):En:=⟨43,[.c [.b t,.m i],.c [.b t',.m j]],.c [.b s,.m k]⟩
def eH (t:Bool) (i:Nat):En:=⟨41,[.c [.b t,.m i]],.c [.q]⟩
def eQ (n:Int):En:=⟨7,[.c [.q]],.i n⟩
section
variable {β:Nat→Nat} {r:Rat}
theorem yM {T:World→Prop} {t x:Bool} {i j:Nat} (h:(β j == 0)=x):(eW t i j x).Ok T β r:=Tz h
theorem Eh {T:World→Prop} {t:Bool} {i:Nat} (h0:t=true→β i≠0) (hr:((zs t (β i):Int):Rat)=r):(eH t i).Ok T β r:=TI h0 hr
theorem Jv {T:World→Prop} {t t' s:Bool} {i j k K:Nat} (h1:ni t (β i) t' (β j)=s) (h2:lK t (β i) t' (β j)=β k) (hK:K≤137438953472) (k1:β i<B64 ^ K) (k2:β j<B64 ^ K):(eA t t' s i j k).Ok T β r:=by
 intro W vs hv hT
 match vs,hv with
 | [v,v'],⟨⟨us,hu,ha⟩,⟨us',hu',ha'⟩,_⟩ =>
  obtain ⟨c,d,rfl,g1⟩:=zf ha
  obtain ⟨e,g,rfl,g2⟩:=zf ha'
  subst hu hu'
  have:=PK t t' c d e g (β i) (β j) K W g1 g2 hK k1 k2
  rw [h1,h2] at this
  exact this.mono fun x W' ⟨a,p,l,q,hx,hm,hb⟩=>⟨[.bool s,.int .u64 a,.slice p l q],hx,⟨rfl,hm,trivial⟩,hb⟩
theorem Tn {T:World→Prop} {n:Int} (h:sgn (decide (r.num<0)) r.num.natAbs=n):(eQ n).Ok T β r:=by
 intro W vs hv hT
 match vs,hv with
 | [v],⟨⟨us,hu,ha⟩,_⟩ =>
  match us,ha with
  | [a,b,c,d,e],⟨hq,_⟩ =>
   subst hu
   obtain ⟨t,x,p,l,q,y,p',s',u,hv,i,-,ht⟩:=IsQ.shape hq
   have:=vk t (.int .u64 x) (.slice p l q) (.int .u64 y) (.slice p' s' u) _ W i
   rw [ht.out,h,← ht.out] at this
   show Calls Tryz.prog _ #[.agg #[a,b,c,d,e]] W _
   rw [hv]
   exact this
theorem Ih (β:Nat→Nat) (r:Rat) (t1 t2:Bool) :
  isW false (bg Tryz.prog (SM β r) (HM β r) ([eS t1 0 1 0].map (dO β r [])) 1 15 [nC t1 0 1,.e (.a (aO 2))] [.m 0 0,.m 1 1,.w 2] 4)=true ∧
  isW false (bg Tryz.prog (SM β r) (HM β r) ([eQ (sg t1),eS t2 2 3 0].map (dO β r [])) 1 15 [.e (.a (aO 0)),nC t2 2 3] [.w 0,.m 2 2,.m 3 3] 4)=true:=by
 cases t1 <;> cases t2 <;> exact ⟨by kernel_rfl,by kernel_rfl⟩
def Ie (t1 t2 s:Bool):List En:=[eS t1 0 1 (sg t1),eS t2 2 3 (sg t2),eW t1 0 1 true,eW t2 2 3 true,eA t1 t2 s 0 2 4,eH s 4]
theorem Pz (β:Nat→Nat) (r:Rat) (t1 t2 s:Bool):isW false (bg Tryz.prog (SM β r) (HM β r) ((Ie t1 t2 s).map (dO β r [])) 1 15 [nC t1 0 1,nC t2 2 3] f4 4)=true:=by
 cases t1 <;> cases t2 <;> cases s <;> kernel_rfl
def Ic (t1 t2 s x1 x2:Bool):List En:=[eS t1 0 1 (sg t1),eS t2 2 3 (sg t2),eW t1 0 1 x1,eW t2 2 3 x2,eU t1 0 1 4,eU t2 2 3 5,eG 4 5 6,eO 4 6 7,eO 5 6 8,eT 0 8 9,eT 2 7 10,eA t1 t2 s 9 10 11,eG 11 6 12,eO 11 12 13,eO 5 12 14,eT 7 14 15,eL s 13 15]
theorem PD (β:Nat→Nat) (r:Rat) (t1 t2 s x1 x2:Bool) (hx:(x1 && x2)=false):isW false (bg Tryz.prog (SM β r) (HM β r) ((Ic t1 t2 s x1 x2).map (dO β r [])) 1 15 [nC t1 0 1,nC t2 2 3] f4 4)=true:=by
 cases x1 <;> cases x2 <;> first | (cases hx;done) | (cases t1 <;> cases t2 <;> cases s <;> kernel_rfl)
end
end Rx
theorem PG (t1 t2:Bool) (x1 y1 x2 y2:Int) (p1 r1 p2 r2:Option Addr) (l1 q1 s1 v1 l2 q2 s2 v2 n1 m1 n2 m2:Nat) (w:World)
  (i1:ah w (.int .u64 x1) (.slice p1 l1 q1) n1) (j1:ah w (.int .u64 y1) (.slice r1 s1 v1) m1) (i2:ah w (.int .u64 x2) (.slice p2 l2 q2) n2) (j2:ah w (.int .u64 y2) (.slice r2 s2 v2) m2) (hT:Tab w) (r:Rat) (hr:n2=r.num.natAbs) (hd:m2=bM r) (ht:Hid (t2=decide (r.num<0))) (h1:sgn t1 n1=0) :
  Calls Tryz.prog 15 #[.agg #[.bool t1,.int .u64 x1,.slice p1 l1 q1,.int .u64 y1,.slice r1 s1 v1],.agg #[.bool t2,.int .u64 x2,.slice p2 l2 q2,.int .u64 y2,.slice r2 s2 v2]] w (bC w r):=by
 have hq:IsQ w (.agg #[.bool t2,.int .u64 x2,.slice p2 l2 q2,.int .u64 y2,.slice r2 s2 v2]) r:=⟨_,_,_,_,by rw [ht.out],by rw [← hr];exact i2,by rw [← hd];exact j2⟩
 exact Rx.ng (β:=Rx.bt [n1,m1]) (ρ:=Rx.em [⟨false,x1,p1,l1,q1,.empty,0,default⟩,⟨false,y1,r1,s1,v1,.empty,0,default⟩,⟨t2,x2,p2,l2,q2,.empty,0,default⟩,⟨false,y2,r2,s2,v2,.empty,0,default⟩]) (args:=[Rx.nC t1 0 1,.e (.a (Rx.aO 2))]) (fs:=[.m 0 0,.m 1 1,.w 2]) Rx.jG (fun e he=>by
  obtain rfl:=List.mem_singleton.1 he
  exact Rx.kC h1) (Rx.Ih _ _ t1 t1).1 (fun h=>by cases h) (Rx.tab_below hT) fun g hg=>by
  simp only [List.mem_cons,List.not_mem_nil,or_false] at hg
  rcases hg with rfl | rfl | rfl
  ·exact i1
  ·exact j1
  ·exact hq
theorem PI (t1 t2:Bool) (x1 y1 x2 y2:Int) (p1 r1 p2 r2:Option Addr) (l1 q1 s1 v1 l2 q2 s2 v2 n1 m1 n2 m2:Nat) (w:World)
  (i1:ah w (.int .u64 x1) (.slice p1 l1 q1) n1) (j1:ah w (.int .u64 y1) (.slice r1 s1 v1) m1) (i2:ah w (.int .u64 x2) (.slice p2 l2 q2) n2) (j2:ah w (.int .u64 y2) (.slice r2 s2 v2) m2) (hT:Tab w) (r:Rat) (hr:n1=r.num.natAbs) (hd:m1=bM r) (ht:Hid (t1=decide (r.num<0))) (h1:sgn t1 n1≠0) (h2:sgn t2 n2=0) :
  Calls Tryz.prog 15 #[.agg #[.bool t1,.int .u64 x1,.slice p1 l1 q1,.int .u64 y1,.slice r1 s1 v1],.agg #[.bool t2,.int .u64 x2,.slice p2 l2 q2,.int .u64 y2,.slice r2 s2 v2]] w (bC w r):=by
 have hq:IsQ w (.agg #[.bool t1,.int .u64 x1,.slice p1 l1 q1,.int .u64 y1,.slice r1 s1 v1]) r:=⟨_,_,_,_,by rw [ht.out],by rw [← hr];exact i1,by rw [← hd];exact j1⟩
 exact Rx.ng (β:=Rx.bt [0,0,n2,m2]) (ρ:=Rx.em [⟨t1,x1,p1,l1,q1,.empty,0,default⟩,⟨false,y1,r1,s1,v1,.empty,0,default⟩,⟨false,x2,p2,l2,q2,.empty,0,default⟩,⟨false,y2,r2,s2,v2,.empty,0,default⟩]) (args:=[.e (.a (Rx.aO 0)),Rx.nC t2 2 3]) (fs:=[.w 0,.m 2 2,.m 3 3]) Rx.jG (fun e he=>by
  simp only [List.mem_cons,List.not_mem_nil,or_false] at he
  rcases he with rfl | rfl
  ·exact Rx.Tn (by rw [← ht.out,← hr];exact Rx.pF h1)
  ·exact Rx.kC h2) (Rx.Ih _ _ t1 t2).2 (fun h=>by cases h) (Rx.tab_below hT) fun g hg=>by
  simp only [List.mem_cons,List.not_mem_nil,or_false] at hg
  rcases hg with rfl | rfl | rfl
  ·exact hq
  ·exact i2
  ·exact j2
theorem PE (t1 t2:Bool) (x1 y1 x2 y2:Int) (p1 r1 p2 r2:Option Addr) (l1 q1 s1 v1 l2 q2 s2 v2 n1 m1 n2 m2 k:Nat) (w:World)
  (i1:ah w (.int .u64 x1) (.slice p1 l1 q1) n1) (j1:ah w (.int .u64 y1) (.slice r1 s1 v1) m1) (i2:ah w (.int .u64 x2) (.slice p2 l2 q2) n2) (j2:ah w (.int .u64 y2) (.slice r2 s2 v2) m2) (hT:Tab w) (h1:sgn t1 n1≠0) (h2:sgn t2 n2≠0) (w1':m1=0) (w2':m2=0) (hk:k≤137438953472) (k1:n1<B64 ^ k) (k2:n2<B64 ^ k) (g1:t1=true→n1≠0) (g2:t2=true→n2≠0) :
  Calls Tryz.prog 15 #[.agg #[.bool t1,.int .u64 x1,.slice p1 l1 q1,.int .u64 y1,.slice r1 s1 v1],.agg #[.bool t2,.int .u64 x2,.slice p2 l2 q2,.int .u64 y2,.slice r2 s2 v2]] w (bC w ((zs t1 n1+zs t2 n2:Int):Rat)):=by
 obtain ⟨ss1,ss2,ss3⟩:=Ob t1 t2 n1 n2
 refine Rx.rJ (β:=Rx.bt [n1,m1,n2,m2,lK t1 n1 t2 n2]) i1 j1 i2 j2 fun _ hg=>Rx.ng Rx.jG (fun e he=>?_) (Rx.Pz _ _ t1 t2 (ni t1 n1 t2 n2)) (fun h=>by cases h) (Rx.tab_below hT) hg
 simp only [Rx.Ie,List.mem_cons,List.not_mem_nil,or_false] at he
 rcases he with rfl | rfl | rfl | rfl | rfl | rfl
 ·exact Rx.kC (Rx.pF h1)
 ·exact Rx.kC (Rx.pF h2)
 ·exact Rx.yM (by show (m1 == 0)=true;rw [w1'];rfl)
 ·exact Rx.yM (by show (m2 == 0)=true;rw [w2'];rfl)
 ·exact Rx.Jv (K:=k) rfl rfl hk k1 k2
 ·exact Rx.Eh (ss3 g1 g2) (by show ((zs (ni t1 n1 t2 n2) (lK t1 n1 t2 n2):Int):Rat)=_;rw [ss1])
end
section
open Go.RowKit Go.Sort
theorem Ig (t1 t2:Bool) (x1 y1 x2 y2:Int) (p1 r1 p2 r2:Option Addr) (l1 q1 s1 v1 l2 q2 s2 v2 n1 m1 n2 m2 k:Nat) (w:World)
  (i1:ah w (.int .u64 x1) (.slice p1 l1 q1) n1) (j1:ah w (.int .u64 y1) (.slice r1 s1 v1) m1) (i2:ah w (.int .u64 x2) (.slice p2 l2 q2) n2) (j2:ah w (.int .u64 y2) (.slice r2 s2 v2) m2) (hT:Tab w) (h1:sgn t1 n1≠0) (h2:sgn t2 n2≠0) (wmm:m1=0→m2≠0) (o1:Nat.Coprime n1 (au m1)) (o2:Nat.Coprime n2 (au m2)) (hk:k≤17179869184) (k1:n1<B64 ^ k) (k2:au m1<B64 ^ k) (k3:n2<B64 ^ k) (k4:au m2<B64 ^ k) (e1:au m1≠0) (e2:au m2≠0) :
  Calls Tryz.prog 15 #[.agg #[.bool t1,.int .u64 x1,.slice p1 l1 q1,.int .u64 y1,.slice r1 s1 v1],.agg #[.bool t2,.int .u64 x2,.slice p2 l2 q2,.int .u64 y2,.slice r2 s2 v2]] w (bC w (mkRat (zs t1 n1) (au m1)+mkRat (zs t2 n2) (au m2))):=by
 have ss:=Ob t1 t2 (n1*(au m2 / Nat.gcd (au m1) (au m2))) (n2*(au m1 / Nat.gcd (au m1) (au m2)))
 obtain ⟨P1,P2,P3,P4,P5⟩:=Py _ t1 t2 _ n1 (au m1) n2 (au m2) o1 o2 e1 e2 ss.1
 have lt:∀ {a b K:Nat},a<B64 ^ K→a / b<B64 ^ K:=fun h=>Nat.lt_of_le_of_lt (Nat.div_le_self _ _) h
 have kp1:=um k1 (lt (b:=Nat.gcd (au m1) (au m2)) k4)
 have kp2:=um k3 (lt (b:=Nat.gcd (au m1) (au m2)) k2)
 have kN:=Nat.lt_of_le_of_lt ss.2.1 (VI kp1 kp2)
 have kc:Nat.gcd (au m1) (au m2)<B64 ^ (k+k+1):=Nat.lt_of_lt_of_le (Nat.lt_of_le_of_lt (Nat.le_of_dvd (Nat.pos_of_ne_zero e1) (Nat.gcd_dvd_left _ _)) k2) (Nat.pow_le_pow_right (by decide) (by omega))
 generalize hsB:ni t1 (n1*(au m2 / Nat.gcd (au m1) (au m2))) t2 (n2*(au m1 / Nat.gcd (au m1) (au m2)))=sB at *
 generalize hsN:lK t1 (n1*(au m2 / Nat.gcd (au m1) (au m2))) t2 (n2*(au m1 / Nat.gcd (au m1) (au m2)))=sN at *
 generalize hc:Nat.gcd (au m1) (au m2)=c at *
 generalize hg:Nat.gcd sN c=g at *
 refine Rx.rJ (β:=Rx.bt [n1,m1,n2,m2,au m1,au m2,c,au m1 / c,au m2 / c,n1*(au m2 / c),n2*(au m1 / c),sN,g,sN / g,au m2 / g,au m1 / c*(au m2 / g)]) i1 j1 i2 j2 fun _ hg'=>Rx.ng Rx.jG (fun e he=>?_) (Rx.PD _ _ t1 t2 sB (m1 == 0) (m2 == 0) (by
  by_cases h:m1=0
  ·rw [show (m2 == 0)=false from beq_eq_false_iff_ne.2 (wmm h),Bool.and_false]
  ·rw [show (m1 == 0)=false from beq_eq_false_iff_ne.2 h,Bool.false_and])) (fun h=>by cases h) (Rx.tab_below hT) hg'
 simp only [Rx.Ic,List.mem_cons,List.not_mem_nil,or_false] at he
 rcases he with rfl | rfl | rfl | rfl | rfl | rfl | rfl | rfl | rfl | rfl | rfl | rfl | rfl | rfl | rfl | rfl | rfl
 ·exact Rx.kC (Rx.pF h1)
 ·exact Rx.kC (Rx.pF h2)
 ·exact Rx.yM rfl
 ·exact Rx.yM rfl
 ·exact Rx.nZ rfl
 ·exact Rx.nZ rfl
 ·exact Rx.yJ (K:=k) hc (by omega) k2 k4
 ·exact Rx.nY (K:=k) rfl P1 (by omega) k2
 ·exact Rx.nY (K:=k) rfl P1 (by omega) k4
 ·exact Rx.qo (K:=k) rfl (by omega) k1 (lt k4)
 ·exact Rx.qo (K:=k) rfl (by omega) k3 (lt k2)
 ·exact Rx.Jv (K:=k+k) hsB hsN (by omega) kp1 kp2
 ·exact Rx.yJ (K:=k+k+1) hg (by omega) kN kc
 ·exact Rx.nY (K:=k+k+1) rfl P2 (by omega) kN
 ·exact Rx.nY (K:=k) rfl P2 (by omega) k4
 ·exact Rx.qo (K:=k) rfl (by omega) (lt k2) (lt k4)
 ·exact Rx.Ei P3 P4 P5
theorem Jj (r:Rat) (h:bM r=0):r=(r.num:Rat):=by
 have h1:r.den=1:=by
  unfold bM at h
  by_cases h2:r.den=1
  ·exact h2
  ·rw [if_neg h2] at h
   exact absurd h r.den_nz
 exact Rat.ext rfl h1
theorem rW (r s:Rat) (v1 v2:Value) (k:Nat) (w:World) (h1:IsQ w v1 r) (h2:IsQ w v2 s) (hk:k≤17179869184) (f1:Fits k r) (f2:Fits k s) (hT:Tab w) :
  Calls Tryz.prog 15 #[v1,v2] w (bC w (r+s)):=by
 obtain ⟨t1,x1,p1,l1,q1,y1,r1,s1,u1,rfl,i1,j1,e1⟩:=h1.shape
 obtain ⟨t2,x2,p2,l2,q2,y2,r2,s2,u2,rfl,i2,j2,e2⟩:=h2.shape
 have e1':=e1.out
 have e2':=e2.out
 by_cases z1:r=0
 ·have:=PG t1 t2 x1 y1 x2 y2 p1 r1 p2 r2 l1 q1 s1 u1 l2 q2 s2 u2 _ _ _ _ w i1 j1 i2 j2 hT s rfl rfl e2 (by rw [e1'];exact (lI r).2 z1)
  rw [z1,Rat.zero_add]
  exact this
 have n1:sgn t1 r.num.natAbs≠0:=by rw [e1'];exact fun h=>z1 ((lI r).1 h)
 by_cases z2:s=0
 ·have:=PI t1 t2 x1 y1 x2 y2 p1 r1 p2 r2 l1 q1 s1 u1 l2 q2 s2 u2 _ _ _ _ w i1 j1 i2 j2 hT r rfl rfl e1 n1 (by rw [e2'];exact (lI s).2 z2)
  rw [z2,Rat.add_zero]
  exact this
 have n2:sgn t2 s.num.natAbs≠0:=by rw [e2'];exact fun h=>z2 ((lI s).1 h)
 by_cases d1:bM r=0
 ·by_cases d2:bM s=0
  ·have:=PE t1 t2 x1 y1 x2 y2 p1 r1 p2 r2 l1 q1 s1 u1 l2 q2 s2 u2 _ _ _ _ k w i1 j1 i2 j2 hT n1 n2 d1 d2 (by omega) f1.1 f2.1 (by rw [e1'];intro h;have:=of_decide_eq_true h;omega) (by rw [e2'];intro h;have:=of_decide_eq_true h;omega)
   rw [e1',e2',AX,AX,Rat.intCast_add,← Jj r d1,← Jj s d2] at this
   rw [e1',e2']
   exact this
  ·have:=Ig t1 t2 x1 y1 x2 y2 p1 r1 p2 r2 l1 q1 s1 u1 l2 q2 s2 u2 _ _ _ _ k w i1 j1 i2 j2 hT n1 n2 (fun _=>d2) (by rw [bV];exact r.reduced) (by rw [bV];exact s.reduced) hk f1.1 (by rw [bV];exact f1.2) f2.1 (by rw [bV];exact f2.2) (by rw [bV];exact r.den_nz) (by rw [bV];exact s.den_nz)
   rw [e1',e2',uK,uK] at this
   rw [e1',e2']
   exact this
 ·have:=Ig t1 t2 x1 y1 x2 y2 p1 r1 p2 r2 l1 q1 s1 u1 l2 q2 s2 u2 _ _ _ _ k w i1 j1 i2 j2 hT n1 n2 (fun h=>absurd h d1) (by rw [bV];exact r.reduced) (by rw [bV];exact s.reduced) hk f1.1 (by rw [bV];exact f1.2) f2.1 (by rw [bV];exact f2.2) (by rw [bV];exact r.den_nz) (by rw [bV];exact s.den_nz)
  rw [e1',e2',uK,uK] at this
  rw [e1',e2']
  exact this
end
end Go.Proofs.YtancpaiaoamjlaaGreatDoor
