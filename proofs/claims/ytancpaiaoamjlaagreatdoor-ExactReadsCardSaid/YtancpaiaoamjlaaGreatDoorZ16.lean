/- What the proof rests on, part 16. -/
import Derived.Test.YtancpaiaoamjlaaGreatDoorZ15
import Derived.Test.YtancpaiaoamjlaaGreatDoorZ05
namespace Go.Proofs.YtancpaiaoamjlaaGreatDoor
set_option maxRecDepth 100000
set_option maxHeartbeats 80000000
namespace Rx
open Go.RowKit
inductive Fm
 | m (s i:Nat)
 | w (s:Nat)
def Fm.nm:Fm→List Nat
 | .m s _=>[s]
 | .w s=>[s,s+1]
def Fm.on (β:Nat→Nat) (r:Rat) (ρ:Env):Fm→World→Prop
 | .m s i,W=>ah W (.int .u64 (ρ s).u) (.slice (ρ s).p (ρ s).l (ρ s).c) (β i)
 | .w s,W=>IsQ W (.agg ((aO s).map (Cell.den ρ)).toArray) r
def SM (β:Nat→Nat) (r:Rat):Sys where
 F:=Fm
 nm:=Fm.nm
 on:=Fm.on β r
 okC:=okC
 cg:=fun {ρ ρ' f W} h hf=>by
  cases f with
  | m s i=>simp only [Fm.on] at hf ⊢;rw [← h s (by simp [Fm.nm])];exact hf
  | w s =>
   simp only [Fm.nm,List.mem_cons,List.not_mem_nil,or_false] at h
   simp only [Fm.on] at hf ⊢
   rwa [kW (ρ:=ρ') (ρ':=ρ) (l:=aO s) fun n hn=>(h n (by simpa [aO,Cell.nm] using hn)).symm]
 bl:=fun {ρ f W W'} hb hf=>by
  cases f with
  | m s i=>exact ah.below hf hb
  | w s=>exact IsQ.below hf hb
 st:=fun {ρ f W b T cs i u} hok _ hb hf=>by
  have hv:=zX ρ hok
  have hb':Go.Proofs.YtancpaiaoamjlaaGreatDoor.Bx W b T (cs.map (Cell.den ρ)):=hb
  cases f with
  | m s i=>exact ah.setBox hf hb' hv
  | w s=>exact IsQ.setBox hf hb' hv
def HM (β:Nat→Nat) (r:Rat):Tests (SM β r) where
 eq:=fun _ _ _=>none
 ok:=fun h=>(by cases h)
inductive A
 | b (t:Bool)
 | m (i:Nat)
 | q
def IsA (β:Nat→Nat) (r:Rat) (W:World):List A→List Value→Prop
 | [],[]=>True
 | .b t :: l,v :: vs=>v=.bool t∧IsA β r W l vs
 | .m i :: l,c :: d :: vs=>ah W c d (β i)∧IsA β r W l vs
 | .q :: l,a :: b :: c :: d :: e :: vs=>IsQ W (.agg #[a,b,c,d,e]) r∧IsA β r W l vs
 | _,_=>False
def tJ:List Fm→Nat→Option Nat
 | [],_=>none
 | .m s i :: r,n=>if s=n then some i else tJ r n
 | _ :: r,n=>tJ r n
def oI:List Fm→Nat→Bool
 | [],_=>false
 | .w s :: r,n=>s == n || oI r n
 | _ :: r,n=>oI r n
theorem Es {n i:Nat}:∀ {db:List Fm},tJ db n=some i→.m n i∈db
 | [],h=>by simp [tJ] at h
 | f :: r,h=>by
  cases f with
  | m s j =>
   simp only [tJ] at h
   split at h
   ·rename_i hs;cases h;subst hs;simp
   ·exact List.mem_cons_of_mem _ (Es h)
  | w s=>exact List.mem_cons_of_mem _ (Es h)
theorem yV {n:Nat}:∀ {db:List Fm},oI db n=true→.w n∈db
 | [],h=>by simp [oI] at h
 | f :: r,h=>by
  cases f with
  | w s =>
   simp only [oI,Bool.or_eq_true,beq_iff_eq] at h
   rcases h with h | h
   ·subst h;simp
   ·exact List.mem_cons_of_mem _ (yV h)
  | m s j=>exact List.mem_cons_of_mem _ (yV h)
def Vz (ls:List (Nat×Nat)) (i:Nat) (n:Int):Bool:=ls.any fun p=>p.1 == i && decide ((p.2:Int)=n)
def asA (ls:List (Nat×Nat)) (db:List Fm):List A→List Cell→Bool
 | [],[]=>true
 | .b t :: l,.bl x :: cs=>x == t && asA ls db l cs
 | .m i :: l,.ou a :: .os b :: cs=>a == b && tJ db a == some i && asA ls db l cs
 | .m i :: l,.it .u64 n :: .nils :: cs=>Vz ls i n && asA ls db l cs
 | .q :: l,.ob a :: .ou b :: .os c :: .ou d :: .os e :: cs=>a == b && a == c && a+1 == d && a+1 == e && oI db a && asA ls db l cs
 | _,_=>false
def cellsA:List A→Nat→List Cell
 | [],_=>[]
 | .b t :: l,s=>.bl t :: cellsA l s
 | .m _ :: l,s=>.ou s :: .os s :: cellsA l (s+1)
 | .q :: l,s=>aO s ++ cellsA l (s+2)
def lg:List A→Nat→List Fm
 | [],_=>[]
 | .b _ :: l,s=>lg l s
 | .m i :: l,s=>.m s i :: lg l (s+1)
 | .q :: l,s=>.w s :: lg l (s+2)
def fO:List A→Nat
 | []=>0
 | .b _ :: l=>fO l
 | .m _ :: l=>fO l+1
 | .q :: l=>fO l+2
section
variable {β:Nat→Nat} {r:Rat} {ρ:Env} {W:World} {db:List Fm} {ls:List (Nat×Nat)}
theorem sG (hls:∀ p∈ls,β p.1=p.2∧p.2<B64) (hf:∀ f∈db,(SM β r).on ρ f W):∀ {l:List A} {cs:List Cell},asA ls db l cs=true→IsA β r W l (cs.map (Cell.den ρ))
 | [],[],_=>trivial
 | [],_ :: _,h=>by simp [asA] at h
 | a :: l,cs,h=>by
  unfold asA at h
  split at h
  ·rename_i heq;cases heq
  ·rename_i heq;cases heq
   simp only [Bool.and_eq_true,beq_iff_eq] at h
   exact ⟨by rw [← h.1];rfl,sG hls hf h.2⟩
  ·rename_i heq;cases heq
   simp only [Bool.and_eq_true,beq_iff_eq] at h
   obtain ⟨⟨h1,h2⟩,h3⟩:=h
   subst h1
   exact ⟨hf _ (Es h2),sG hls hf h3⟩
  ·rename_i heq;cases heq
   simp only [Bool.and_eq_true] at h
   obtain ⟨h1,h3⟩:=h
   obtain ⟨p,hp,h4⟩:=List.any_eq_true.1 h1
   simp only [Bool.and_eq_true,beq_iff_eq,decide_eq_true_eq] at h4
   obtain ⟨h5,h6⟩:=hls p hp
   refine ⟨?_,sG hls hf h3⟩
   rw [← h4.1,h5]
   exact .inl ⟨h6,by rw [← h4.2];rfl,rfl⟩
  ·rename_i heq;cases heq
   simp only [Bool.and_eq_true,beq_iff_eq] at h
   obtain ⟨⟨⟨⟨⟨h1,h2⟩,h3⟩,h4⟩,h5⟩,h6⟩:=h
   subst h1 h2 h3 h4
   exact ⟨hf _ (yV h5),sG hls hf h6⟩
  ·cases h
theorem uo:∀ {l:List A} {vs:List Value},IsA β r W l vs→∃ L:List Nv,L.length=fO l∧∀ (ρ':Env) s,(∀ i,i<fO l→ρ' (s+i)=L[i]?.getD default)→(cellsA l s).map (Cell.den ρ')=vs∧∀ f∈lg l s,(SM β r).on ρ' f W
 | [],[],_=>⟨[],rfl,fun ρ' s _=>⟨rfl,fun f hf=>by simp [lg] at hf⟩⟩
 | [],_ :: _,h=>h.elim
 | .b t :: l,[],h=>h.elim
 | .b t :: l,v :: vs,h=>by
  obtain ⟨h1,h2⟩:v=.bool t∧IsA β r W l vs:=h
  obtain ⟨L,h3,h4⟩:=uo h2
  refine ⟨L,h3,fun ρ' s hρ=>?_⟩
  obtain ⟨g1,g2⟩:=h4 ρ' s hρ
  exact ⟨by simp only [cellsA,List.map_cons,g1];rw [h1];rfl,g2⟩
 | .m i :: l,[],h=>h.elim
 | .m i :: l,[_],h=>h.elim
 | .m i :: l,c :: d :: vs,h=>by
  obtain ⟨h1,h2⟩:ah W c d (β i)∧IsA β r W l vs:=h
  obtain ⟨x,p,k,q,rfl,rfl⟩:=h1.shape
  obtain ⟨L,h3,h4⟩:=uo h2
  refine ⟨⟨false,x,p,k,q,.empty,0,default⟩ :: L,by simp [h3,fO],fun ρ' s hρ=>?_⟩
  have h0:=hρ 0 (by simp [fO])
  simp only [Nat.add_zero,List.getElem?_cons_zero,Option.getD_some] at h0
  obtain ⟨g1,g2⟩:=h4 ρ' (s+1) (fun j hj=>by
   have:=hρ (j+1) (by simp only [fO];omega)
   rw [show s+1+j=s+(j+1) by omega,this];rfl)
  refine ⟨by simp [cellsA,g1,Cell.den,h0],fun f hf=>?_⟩
  simp only [lg,List.mem_cons] at hf
  rcases hf with rfl | hf
  ·show ah W (.int .u64 (ρ' s).u) (.slice (ρ' s).p (ρ' s).l (ρ' s).c) (β i)
   rw [h0];exact h1
  ·exact g2 f hf
 | .q :: l,[],h=>h.elim
 | .q :: l,[_],h=>h.elim
 | .q :: l,[_,_],h=>h.elim
 | .q :: l,[_,_,_],h=>h.elim
 | .q :: l,[_,_,_,_],h=>h.elim
 | .q :: l,a :: b :: c :: d :: e :: vs,h=>by
  obtain ⟨h1,h2⟩:IsQ W (.agg #[a,b,c,d,e]) r∧IsA β r W l vs:=h
  obtain ⟨t,x,p,k,q,y,p',k',q',hv,-,-,-⟩:=IsQ.shape h1
  have hv':=congrArg Array.toList (Value.agg.inj hv)
  simp only [List.cons.injEq,and_true] at hv'
  obtain ⟨rfl,rfl,rfl,rfl,rfl⟩:=hv'
  obtain ⟨L,h3,h4⟩:=uo h2
  refine ⟨⟨t,x,p,k,q,.empty,0,default⟩ :: ⟨false,y,p',k',q',.empty,0,default⟩ :: L,by simp [h3,fO],fun ρ' s hρ=>?_⟩
  have h0:=hρ 0 (by simp [fO])
  have h9:=hρ 1 (by simp [fO])
  simp only [Nat.add_zero,List.getElem?_cons_zero,List.getElem?_cons_succ,Option.getD_some] at h0 h9
  obtain ⟨g1,g2⟩:=h4 ρ' (s+2) (fun j hj=>by
   have:=hρ (j+2) (by simp only [fO];omega)
   rw [show s+2+j=s+(j+2) by omega,this];rfl)
  have hn:(aO s).map (Cell.den ρ')=[.bool t,.int .u64 x,.slice p k q,.int .u64 y,.slice p' k' q']:=by simp [aO,Cell.den,h0,h9]
  refine ⟨by simp [cellsA,g1,hn],fun f hf=>?_⟩
  simp only [lg,List.mem_cons] at hf
  rcases hf with rfl | hf
  ·show IsQ W (.agg ((aO s).map (Cell.den ρ')).toArray) r
   rw [hn];exact h1
  ·exact g2 f hf
end
inductive Pt
 | c (l:List A)
 | i (n:Int)
inductive Rt
 | c (l:List A)
 | i (n:Int)
 | b (x:Bool)
 | p (l l':List A)
structure En where
 fn:FuncId
 args:List Pt
 res:Rt
def IsP (β:Nat→Nat) (r:Rat) (W:World):List Pt→List Value→Prop
 | [],[]=>True
 | .c l :: ps,v :: vs=>(∃ us,v=.agg us.toArray∧IsA β r W l us)∧IsP β r W ps vs
 | .i n :: ps,v :: vs=>v=.int .i64 n∧IsP β r W ps vs
 | _,_=>False
def Bh (β:Nat→Nat) (r:Rat) (w:World) (e:Ending) (W:World):Rt→Prop
 | .c l=>∃ us,e=.returned (.agg us.toArray)∧IsA β r W l us∧Below w.heap.size w W
 | .i n=>e=.returned (.int .i64 n)∧Below w.heap.size w W
 | .b x=>e=.returned (.bool x)∧Below w.heap.size w W
 | .p l l'=>∃ us us',e=.returned (.tuple #[.agg us.toArray,.agg us'.toArray])∧IsA β r W l us∧IsA β r W l' us'∧Below w.heap.size w W
def En.Ok (T:World→Prop) (β:Nat→Nat) (r:Rat) (e:En):Prop:=∀ W vs,IsP β r W e.args vs→T W→Calls Tryz.prog e.fn vs.toArray W fun x W'=>Bh β r W x W' e.res
def asP (ls:List (Nat×Nat)) (db:List Fm):List Pt→List SV→Bool
 | [],[]=>true
 | .c l :: ps,.e (.a cs) :: vs=>asA ls db l cs && asP ls db ps vs
 | .i n :: ps,.e (.s (.it .i64 x)) :: vs=>decide (x=n) && asP ls db ps vs
 | _,_=>false
def Rt.sv (b:Nat):Rt→SV
 | .c l=>.e (.a (cellsA l b))
 | .i n=>.e (.s (.it .i64 n))
 | .b x=>.e (.s (.bl x))
 | .p l l'=>.t [.a (cellsA l b),.a (cellsA l' (b+fO l))]
def Rt.fs (b:Nat):Rt→List Fm
 | .c l=>lg l b
 | .i _ | .b _=>[]
 | .p l l'=>lg l b ++ lg l' (b+fO l)
def Rt.len:Rt→Nat
 | .c l=>fO l
 | .i _ | .b _=>0
 | .p l l'=>fO l+fO l'
def dO (β:Nat→Nat) (r:Rat) (ls:List (Nat×Nat)) (e:En):Con (SM β r) where
 fn:=e.fn
 app:=fun db b args=>if asP ls db e.args args && decide (e.res.len≤M) then some (e.res.sv b,e.res.fs b) else none
section
variable {β:Nat→Nat} {r:Rat} {ls:List (Nat×Nat)}
theorem BP {ρ:Env} {W:World} {db:List Fm} (hls:∀ p∈ls,β p.1=p.2∧p.2<B64) (hf:∀ f∈db,(SM β r).on ρ f W):∀ {ps:List Pt} {vs:List SV},asP ls db ps vs=true→IsP β r W ps (vs.map (SV.den ρ))
 | [],[],_=>trivial
 | [],_ :: _,h=>by simp [asP] at h
 | p :: ps,vs,h=>by
  unfold asP at h
  split at h
  ·rename_i heq;cases heq
  ·rename_i heq;cases heq
   simp only [Bool.and_eq_true] at h
   exact ⟨⟨_,rfl,sG hls hf h.1⟩,BP hls hf h.2⟩
  ·rename_i heq;cases heq
   simp only [Bool.and_eq_true,decide_eq_true_eq] at h
   exact ⟨by rw [← h.1];rfl,BP hls hf h.2⟩
  ·cases h
theorem CZ {T:World→Prop} {e:En} (hls:∀ p∈ls,β p.1=p.2∧p.2<B64) (he:e.Ok T β r):(dO β r ls e).Ok Tryz.prog (SM β r) T:=by
 refine Con.ok0 rfl ?_
 intro db b args res new ha ρ W hf hE
 simp only [dO] at ha
 split at ha
 ·rename_i hh
  simp only [Bool.and_eq_true,decide_eq_true_eq] at hh
  cases ha
  refine (he W _ (BP hls hf hh.1) hE).mono fun x W' hx=>?_
  obtain ⟨-,hlen⟩:=hh
  cases hr:e.res with
  | c l =>
   rw [hr] at hx hlen
   obtain ⟨us,h1,h2,h3⟩:=hx
   obtain ⟨L,h4,h5⟩:=uo h2
   obtain ⟨g1,g2⟩:=h5 (aH ρ b L) b (fun i hi=>by
    unfold aH
    rw [if_pos (by omega),Nat.add_sub_cancel_left,List.getElem?_eq_getElem (by omega)];rfl)
   exact ⟨aH ρ b L,gI (by rw [h4];exact hlen),by rw [h1];simp only [Rt.sv,SV.den,El.den,g1],h3,g2⟩
  | i n=>rw [hr] at hx;exact ⟨ρ,fun _ _=>rfl,hx.1,hx.2,fun f hf=>by cases hf⟩
  | b x=>rw [hr] at hx;exact ⟨ρ,fun _ _=>rfl,hx.1,hx.2,fun f hf=>by cases hf⟩
  | p l l' =>
   rw [hr] at hx hlen
   obtain ⟨us,us',h1,h2,h2',h3⟩:=hx
   obtain ⟨L,h4,h5⟩:=uo h2
   obtain ⟨L',h4',h5'⟩:=uo h2'
   have hs:∀ i,i<fO l+fO l'→aH ρ b (L ++ L') (b+i)=(L ++ L')[i]?.getD default:=fun i hi=>by
    unfold aH
    rw [if_pos (by omega),Nat.add_sub_cancel_left,List.getElem?_eq_getElem (by simp;omega)];rfl
   obtain ⟨g1,g2⟩:=h5 (aH ρ b (L ++ L')) b (fun i hi=>by rw [hs i (by omega),List.getElem?_append_left (by omega)])
   obtain ⟨g1',g2'⟩:=h5' (aH ρ b (L ++ L')) (b+fO l) (fun i hi=>by rw [Nat.add_assoc,hs _ (by omega),List.getElem?_append_right (by omega),h4,Nat.add_sub_cancel_left])
   refine ⟨aH ρ b (L ++ L'),gI (by simp only [List.length_append,h4,h4'];exact hlen),by rw [h1];simp only [Rt.sv,SV.den,El.den,List.map_cons,List.map_nil,g1,g1'],h3,fun f hf=>?_⟩
   rcases List.mem_append.1 hf with hf | hf
   ·exact g2 f hf
   ·exact g2' f hf
 ·cases ha
def isW (z:Bool):Option (SV×List Fm)→Bool
 | some (.e (.a [.ob a,.ou b,.os c,.ou d,.os e]),fs)=>a == b && a == c && a+1 == d && a+1 == e && oI fs a
 | some (.e (.a [.bl false,.it .u64 0,.nils,.it .u64 0,.nils]),_)=>z
 | _=>false
theorem Vd {z:Bool} {o:Option (SV×List Fm)} (h:isW z o=true):(∃ a fs,o=some (.e (.a (aO a)),fs)∧oI fs a=true)∨∃ fs,o=some (.e (.a [.bl false,.it .u64 0,.nils,.it .u64 0,.nils]),fs)∧z=true:=by
 unfold isW at h
 split at h
 ·rename_i a b c d e fs
  simp only [Bool.and_eq_true,beq_iff_eq] at h
  obtain ⟨⟨⟨⟨h1,h2⟩,h3⟩,h4⟩,h5⟩:=h
  subst h1 h2 h3 h4
  exact .inl ⟨a,fs,rfl,h5⟩
 ·rename_i fs;exact .inr ⟨fs,rfl,h⟩
 ·cases h
theorem tab_below {w:World} (hT:Tab w):∀ W,Below w.heap.size w W→Tab W:=fun _ hb=>hT.below hb (Nat.le_refl _)
theorem ng {T:World→Prop} {es:List En} {fuel:Nat} {f:FuncId} {args:List SV} {fs:List Fm} {b:Nat} {ρ:Env} {w:World} {z:Bool} (hls:∀ p∈ls,β p.1=p.2∧p.2<B64) (he:∀ e∈es,e.Ok T β r)
  (hr:isW z (bg Tryz.prog (SM β r) (HM β r) (es.map (dO β r ls)) fuel f args fs b)=true) (hz:z=true→r=0) (hT:∀ W,Below w.heap.size w W→T W) (hf:∀ g∈fs,Fm.on β r ρ g w):Calls Tryz.prog f (args.map (SV.den ρ)).toArray w (bC w r):=by
 have hc:∀ c∈es.map (dO β r ls),c.Ok Tryz.prog (SM β r) T:=fun c hc=>by
  obtain ⟨e,h1,rfl⟩:=List.mem_map.1 hc
  exact CZ hls (he e h1)
 rcases Vd hr with ⟨a,fs',heq,hw⟩ | ⟨fs',heq,hz'⟩
 ·exact (iw mixed hc heq hT hf).mono fun x W' ⟨ρ',_,hx,hb,hfs⟩=>⟨_,hx,hfs _ (yV hw),hb⟩
 ·exact (iw mixed hc heq hT hf).mono fun x W' ⟨ρ',_,hx,hb,hfs⟩=>⟨_,hx,by rw [hz hz'];exact ug _,hb⟩
def vV (n:Int):Option (SV×List Fm)→Bool
 | some (.e (.s (.it .i64 x)),_)=>decide (x=n)
 | _=>false
theorem U2 {n:Int} {o:Option (SV×List Fm)} (h:vV n o=true):∃ fs,o=some (.e (.s (.it .i64 n)),fs):=by
 unfold vV at h
 split at h
 ·rename_i x fs
  have:=of_decide_eq_true h
  subst this
  exact ⟨fs,rfl⟩
 ·cases h
theorem Nj {T:World→Prop} {es:List En} {fuel:Nat} {f:FuncId} {args:List SV} {fs:List Fm} {b:Nat} {ρ:Env} {w:World} {n:Int} (hls:∀ p∈ls,β p.1=p.2∧p.2<B64) (he:∀ e∈es,e.Ok T β r)
  (hr:vV n (bg Tryz.prog (SM β r) (HM β r) (es.map (dO β r ls)) fuel f args fs b)=true) (hT:∀ W,Below w.heap.size w W→T W) (hf:∀ g∈fs,Fm.on β r ρ g w):Calls Tryz.prog f (args.map (SV.den ρ)).toArray w (aX w (.int .i64 n)):=by
 have hc:∀ c∈es.map (dO β r ls),c.Ok Tryz.prog (SM β r) T:=fun c hc=>by
  obtain ⟨e,h1,rfl⟩:=List.mem_map.1 hc
  exact CZ hls (he e h1)
 obtain ⟨fs',heq⟩:=U2 hr
 exact (iw mixed hc heq hT hf).mono fun x W' ⟨ρ',_,hx,hb,_⟩=>⟨hx,hb⟩
def qJ (t:Bool) (i:Nat) (ls:List (Nat×Nat)):Option (SV×List Fm)→Bool
 | some (.e (.a (.bl x :: cs)),fs)=>x == t && asA ls fs [.m i] cs
 | _=>false
theorem Vb {t:Bool} {i:Nat} {o:Option (SV×List Fm)} (h:qJ t i ls o=true):∃ cs fs,o=some (.e (.a (.bl t :: cs)),fs)∧asA ls fs [.m i] cs=true:=by
 unfold qJ at h
 split at h
 ·rename_i x cs fs
  simp only [Bool.and_eq_true,beq_iff_eq] at h
  exact ⟨cs,fs,by rw [h.1],h.2⟩
 ·cases h
theorem mP {W:World} {i:Nat} {vs:List Value} (h:IsA β r W [.m i] vs):∃ c d,vs=[c,d]∧ah W c d (β i):=by
 match vs,h with
 | [],h=>exact h.elim
 | [_],h=>exact h.elim
 | [c,d],h=>exact ⟨c,d,rfl,h.1⟩
 | _ :: _ :: _ :: _,h=>exact h.2.elim
theorem Ak {T:World→Prop} {es:List En} {fuel:Nat} {f:FuncId} {args:List SV} {fs:List Fm} {b:Nat} {ρ:Env} {w:World} {t:Bool} {i:Nat} (hls:∀ p∈ls,β p.1=p.2∧p.2<B64) (he:∀ e∈es,e.Ok T β r)
  (hr:qJ t i ls (bg Tryz.prog (SM β r) (HM β r) (es.map (dO β r ls)) fuel f args fs b)=true) (hT:∀ W,Below w.heap.size w W→T W) (hf:∀ g∈fs,Fm.on β r ρ g w):Calls Tryz.prog f (args.map (SV.den ρ)).toArray w fun e W=>∃ c d,e=.returned (.agg #[.bool t,c,d])∧ah W c d (β i)∧Below w.heap.size w W:=by
 have hc:∀ c∈es.map (dO β r ls),c.Ok Tryz.prog (SM β r) T:=fun c hc=>by
  obtain ⟨e,h1,rfl⟩:=List.mem_map.1 hc
  exact CZ hls (he e h1)
 obtain ⟨cs,fs',heq,h2⟩:=Vb hr
 refine (iw mixed hc heq hT hf).mono fun x W' ⟨ρ',_,hx,hb,hfs⟩=>?_
 obtain ⟨c,d,h3,h4⟩:=mP (sG hls hfs h2)
 refine ⟨c,d,?_,h4,hb⟩
 rw [hx];simp only [SV.den,El.den,List.map_cons,h3];rfl
variable {T:World→Prop}
theorem vS {f:FuncId} {i j k:Nat} (h:∀ c d e g W,ah W c d (β i)→ah W e g (β j)→T W→Calls Tryz.prog f #[.agg #[c,d],.agg #[e,g]] W (aW W (β k))):(⟨f,[.c [.m i],.c [.m j]],.c [.m k]⟩:En).Ok T β r:=by
 intro W vs hv hT
 match vs,hv with
 | [v,v'],⟨⟨us,hu,ha⟩,⟨us',hu',ha'⟩,_⟩ =>
  obtain ⟨c,d,rfl,h1⟩:=mP ha
  obtain ⟨e,g,rfl,h2⟩:=mP ha'
  subst hu hu'
  exact (h c d e g W h1 h2 hT).mono fun x W' ⟨c',d',hx,hm,hb⟩=>⟨[c',d'],hx,⟨hm,trivial⟩,hb⟩
theorem TB {f:FuncId} {i j:Nat} {n:Int} (h:∀ c d e g W,ah W c d (β i)→ah W e g (β j)→Calls Tryz.prog f #[.agg #[c,d],.agg #[e,g]] W (aX W (.int .i64 n))):(⟨f,[.c [.m i],.c [.m j]],.i n⟩:En).Ok T β r:=by
 intro W vs hv hT
 match vs,hv with
 | [v,v'],⟨⟨us,hu,ha⟩,⟨us',hu',ha'⟩,_⟩ =>
  obtain ⟨c,d,rfl,h1⟩:=mP ha
  obtain ⟨e,g,rfl,h2⟩:=mP ha'
  subst hu hu'
  exact h c d e g W h1 h2
theorem UY {W:World} {t:Bool} {i j:Nat} {vs:List Value} (h:IsA β r W [.b t,.m i,.m j] vs):∃ c d e g,vs=[.bool t,c,d,e,g]∧ah W c d (β i)∧ah W e g (β j):=by
 match vs,h with
 | [],h=>exact h.elim
 | [_],h=>exact h.2.elim
 | [_,_],h=>exact h.2.elim
 | [_,_,_],h=>exact h.2.2.elim
 | [_,_,_,_],h=>exact h.2.2.elim
 | [v,c,d,e,g],h=>exact ⟨c,d,e,g,by rw [h.1],h.2.1,h.2.2.1⟩
 | _ :: _ :: _ :: _ :: _ :: _ :: _,h=>exact h.2.2.2.elim
theorem zf {W:World} {t:Bool} {i:Nat} {vs:List Value} (h:IsA β r W [.b t,.m i] vs):∃ c d,vs=[.bool t,c,d]∧ah W c d (β i):=by
 match vs,h with
 | [],h=>exact h.elim
 | [_],h=>exact h.2.elim
 | [_,_],h=>exact h.2.elim
 | [v,c,d],h=>exact ⟨c,d,by rw [h.1],h.2.1⟩
 | _ :: _ :: _ :: _ :: _,h=>exact h.2.2.elim
theorem Ej {f:FuncId} {t:Bool} {i j:Nat} {R:Rt} (h:∀ c d e g W,ah W c d (β i)→ah W e g (β j)→Calls Tryz.prog f #[.agg #[.bool t,c,d,e,g]] W fun x W'=>Bh β r W x W' R):(⟨f,[.c [.b t,.m i,.m j]],R⟩:En).Ok T β r:=by
 intro W vs hv hT
 match vs,hv with
 | [v],⟨⟨us,hu,ha⟩,_⟩ =>
  obtain ⟨c,d,e,g,rfl,h1,h2⟩:=UY ha
  subst hu
  exact h c d e g W h1 h2
theorem Jz {f:FuncId} {t:Bool} {i:Nat} {R:Rt} (h:∀ c d W,ah W c d (β i)→Calls Tryz.prog f #[.agg #[.bool t,c,d]] W fun x W'=>Bh β r W x W' R):(⟨f,[.c [.b t,.m i]],R⟩:En).Ok T β r:=by
 intro W vs hv hT
 match vs,hv with
 | [v],⟨⟨us,hu,ha⟩,_⟩ =>
  obtain ⟨c,d,rfl,h1⟩:=zf ha
  subst hu
  exact h c d W h1
theorem TF {t:Bool} {i j:Nat} {n:Int} (h:sgn t (β i)=n):(⟨7,[.c [.b t,.m i,.m j]],.i n⟩:En).Ok T β r:=Ej fun c d e g W h1 _=>by
 have:=vk t c d e g (β i) W h1
 rw [h] at this
 exact this
theorem TD {t:Bool} {i:Nat} {n:Int} (h:sgn t (β i)=n):(⟨32,[.c [.b t,.m i]],.i n⟩:En).Ok T β r:=Jz fun c d W h1=>by
 have:=NQ t c d (β i) W h1
 rw [h] at this
 exact this
theorem Tz {t x:Bool} {i j:Nat} (h:(β j == 0)=x):(⟨42,[.c [.b t,.m i,.m j]],.b x⟩:En).Ok T β r:=Ej fun c d e g W _ h2=>by
 have:=zl (.bool t) c d e g (β j) W h2
 rw [h] at this
 exact this
theorem TG {t:Bool} {i j k:Nat} (h:au (β j)=β k):(⟨44,[.c [.b t,.m i,.m j]],.c [.m k]⟩:En).Ok T β r:=Ej fun c d e g W _ h2=>by
 have:=Oj (.bool t) c d e g (β j) W h2
 rw [h] at this
 exact this.mono fun x W' ⟨c',d',hx,hm,hb⟩=>⟨[c',d'],hx,⟨hm,trivial⟩,hb⟩
theorem U7 {W:World} {v:Value} {s:Rat} (h:IsQ W v s):∃ us,v=.agg us.toArray∧IsA β s W [.q] us:=by
 obtain ⟨t,x,p,l,q,y,p',s',u,rfl,-,-,-⟩:=IsQ.shape h
 exact ⟨_,rfl,h,trivial⟩
theorem TA {t:Bool} {i j:Nat} (hc:Nat.Coprime (β i) (β j)) (hm:β j≠0) (hr:mkRat (zs t (β i)) (β j)=r):(⟨48,[.c [.b t,.m i],.c [.m j]],.c [.q]⟩:En).Ok T β r:=by
 intro W vs hv hT
 match vs,hv with
 | [v,v'],⟨⟨us,hu,ha⟩,⟨us',hu',ha'⟩,_⟩ =>
  obtain ⟨c,d,rfl,h1⟩:=zf ha
  obtain ⟨e,g,rfl,h2⟩:=mP ha'
  subst hu hu'
  have:=KG t c d e g (β i) (β j) W h1 h2 hc hm
  rw [hr] at this
  refine this.mono fun x W' ⟨v,hx,hq,hb⟩=>?_
  obtain ⟨us,rfl,h3⟩:=U7 hq
  exact ⟨us,hx,h3,hb⟩
theorem TI {t:Bool} {i:Nat} (h0:t=true→β i≠0) (hr:((zs t (β i):Int):Rat)=r):(⟨41,[.c [.b t,.m i]],.c [.q]⟩:En).Ok T β r:=Jz fun c d W h1=>by
 obtain ⟨x,p,l,k,rfl,rfl⟩:=h1.shape
 refine (uX t x p l k W).mono fun e W' ⟨he,hb⟩=>⟨_,he,⟨?_,trivial⟩,hb⟩
 rw [← hr]
 have ht:decide (zs t (β i)<0)=t:=by cases t <;> simp [zs] <;> (have:=h0 rfl;omega)
 have:=qG (w:=W') (zs t (β i)) (c:=.int .u64 x) (d:=.slice p l k) (by rw [pI];exact h1.below hb)
 rw [ht] at this
 exact this
theorem Tv {a b n:Int} (h:∀ W,Calls Tryz.prog 53 #[.int .i64 a,.int .i64 b] W fun e W'=>e=.returned (.int .i64 n)∧W=W'):(⟨53,[.i a,.i b],.i n⟩:En).Ok T β r:=by
 intro W vs hv hT
 match vs,hv with
 | [v,v'],⟨hu,hu',_⟩ =>
  subst hu hu'
  exact (h W).mono fun e W' ⟨h1,h2⟩=>⟨h1,by rw [← h2];exact Below.refl _ _⟩
end
end Rx
section
theorem sS {a b c d:Nat} (h:Nat.Coprime a b) (hc:c∣a) (hd:d∣b):Nat.Coprime c d:=
 Nat.Coprime.coprime_dvd_left hc (Nat.Coprime.coprime_dvd_right hd h)
theorem WC (t1 t2:Bool) (n1 d1 n2 d2:Nat) (h1:Nat.Coprime n1 d1) (h2:Nat.Coprime n2 d2) (e1:d1≠0) (e2:d2≠0) :
  Nat.gcd n1 d2≠0∧Nat.gcd n2 d1≠0∧Nat.Coprime (n1 / Nat.gcd n1 d2*(n2 / Nat.gcd n2 d1)) (d1 / Nat.gcd n2 d1*(d2 / Nat.gcd n1 d2))∧d1 / Nat.gcd n2 d1*(d2 / Nat.gcd n1 d2)≠0 ∧
  mkRat (zs (t1 != t2) (n1 / Nat.gcd n1 d2*(n2 / Nat.gcd n2 d1))) (d1 / Nat.gcd n2 d1*(d2 / Nat.gcd n1 d2))=mkRat (zs t1 n1) d1*mkRat (zs t2 n2) d2:=by
 obtain ⟨g0,g1,g2⟩:=tV n1 d2 e2
 obtain ⟨h0,k1,k2⟩:=tV n2 d1 e1
 have ga:=Nat.gcd_dvd_left n1 d2
 have gb:=Nat.gcd_dvd_right n1 d2
 have ha:=Nat.gcd_dvd_left n2 d1
 have hb:=Nat.gcd_dvd_right n2 d1
 generalize Nat.gcd n1 d2=g at *
 generalize Nat.gcd n2 d1=h at *
 obtain ⟨x1,rfl⟩:=ga
 obtain ⟨y2,rfl⟩:=gb
 obtain ⟨x2,rfl⟩:=ha
 obtain ⟨y1,rfl⟩:=hb
 rw [Nat.mul_div_cancel_left _ (by omega),Nat.mul_div_cancel_left _ (by omega)] at *
 rw [Nat.mul_div_cancel_left _ (by omega),Nat.mul_div_cancel_left _ (by omega)] at *
 have c1:Nat.Coprime x1 y1:=sS h1 (Nat.dvd_mul_left _ _) (Nat.dvd_mul_left _ _)
 have c2:Nat.Coprime x2 y2:=sS h2 (Nat.dvd_mul_left _ _) (Nat.dvd_mul_left _ _)
 refine ⟨g0,h0,?_,Nat.mul_ne_zero k2 g2,?_⟩
 ·exact Nat.Coprime.mul_left (Nat.Coprime.mul_right c1 g1) (Nat.Coprime.mul_right k1 c2)
 ·rw [Rat.mkRat_mul_mkRat,aap,Rat.mkRat_eq_iff (Nat.mul_ne_zero k2 g2) (Nat.mul_ne_zero e1 e2)]
  rw [show g*x1*(h*x2)=x1*x2*(g*h) by grind,wZ (t1 != t2) (x1*x2) (g*h)]
  generalize zs (t1 != t2) (x1*x2)=z
  clear c1 c2 h1 h2 g1 k1
  push_cast
  grind
end
section
open Go.RowKit Go.Sort
attribute [local go_sem] takes gU gQ gK
def dW (n:Nat) (v:Value) (W:World):Prop:=∃ x p l k,v=.agg #[.int .u64 x,.slice p l k]∧ah W (.int .u64 x) (.slice p l k) n
def xB (b:Bool) (n:Nat) (v:Value) (W:World):Prop:=∃ x p l k,v=.agg #[.bool b,.int .u64 x,.slice p l k]∧ah W (.int .u64 x) (.slice p l k) n
def one (f:Value→World→Prop):List Value→World→Prop
 | [v],W=>f v W
 | _,_=>False
theorem aS {f:Value→World→Prop} (h:∀ v W W',Below W.heap.size W W'→f v W→f v W'):∀ vs W W',Below W.heap.size W W'→one f vs W→one f vs W'
 | [v],W,W',hb,hf=>h v W W' hb hf
 | [],_,_,_,hf=>hf
 | _ :: _ :: _,_,_,_,hf=>hf
theorem oO {n:Nat}:∀ v W W',Below W.heap.size W W'→dW n v W→dW n v W':=fun _ _ _ hb ⟨x,p,l,k,e,h⟩=>⟨x,p,l,k,e,h.below hb⟩
theorem Zr {b:Bool} {n:Nat}:∀ v W W',Below W.heap.size W W'→xB b n v W→xB b n v W':=fun _ _ _ hb ⟨x,p,l,k,e,h⟩=>⟨x,p,l,k,e,h.below hb⟩
theorem jP {c:Value}:∀ v W W',Below W.heap.size W W'→(fun v (_:World)=>v=c) v W→(fun v (_:World)=>v=c) v W':=fun _ _ _ _ h=>h
theorem jv {r:Rat}:∀ v W W',Below W.heap.size W W'→(fun v W=>IsQ W v r) v W→(fun v W=>IsQ W v r) v W':=fun _ _ _ hb h=>h.below hb
theorem F9 (b:Bool) (c d e f:Value) (n m k:Nat) (w:World) (h1:ah w c d n) (h2:ah w e f m) (hm:m≠0) (hk:k≤68719476736) (kn:n<B64 ^ k) (km:m<B64 ^ k) (hT:Tab w) :
  Calls Tryz.prog 31 #[.agg #[.bool b,c,d],.agg #[e,f]] w (bC w (mkRat (zs b n) m)):=by
 obtain ⟨x,p,l,q,rfl,rfl⟩:=h1.shape
 obtain ⟨x',p',l',q',rfl,rfl⟩:=h2.shape
 have hb:=(((Below.refl w.heap.size w).alloc (Nat.le_refl _) (.cells #[.bool b,.int .u64 x,.slice p l q] 30)).alloc (by simp) (.cells #[.int .u64 x',.slice p' l' q'] 28)).alloc (by simp;omega) (.cells #[.bool false,.int .u64 0,.slice none 0 0,.int .u64 0,.slice none 0 0] 32)
 have hs:fV (((w.alloc (.cells #[.bool b,.int .u64 x,.slice p l q] 30)).alloc (.cells #[.int .u64 x',.slice p' l' q'] 28)).alloc (.cells #[.bool false,.int .u64 0,.slice none 0 0,.int .u64 0,.slice none 0 0] 32)) (w.heap.size+1+1):=by
  refine ⟨⟨false,?_⟩,⟨0,?_⟩,⟨none,0,0,?_⟩,⟨0,?_⟩,⟨none,0,0,?_⟩,?_,?_,?_,?_,?_⟩ <;> go_simp
 have hx:C3 (((w.alloc (.cells #[.bool b,.int .u64 x,.slice p l q] 30)).alloc (.cells #[.int .u64 x',.slice p' l' q'] 28)).alloc (.cells #[.bool false,.int .u64 0,.slice none 0 0,.int .u64 0,.slice none 0 0] 32)) w.heap.size (.bool b) (.int .u64 x) (.slice p l q):=by
  refine ⟨?_,?_,?_⟩ <;> go_simp
 have hy:C2 (((w.alloc (.cells #[.bool b,.int .u64 x,.slice p l q] 30)).alloc (.cells #[.int .u64 x',.slice p' l' q'] 28)).alloc (.cells #[.bool false,.int .u64 0,.slice none 0 0,.int .u64 0,.slice none 0 0] 32)) (w.heap.size+1) (.int .u64 x') (.slice p' l' q'):=by
  refine ⟨?_,?_⟩ <;> go_simp
 have hsz:(((w.alloc (.cells #[.bool b,.int .u64 x,.slice p l q] 30)).alloc (.cells #[.int .u64 x',.slice p' l' q'] 28)).alloc (.cells #[.bool false,.int .u64 0,.slice none 0 0,.int .u64 0,.slice none 0 0] 32)).heap.size=w.heap.size+3:=by simp
 have HH:=hid (And.intro hb (And.intro hs (And.intro hx (And.intro hy (And.intro hsz (And.intro (h1.below hb) (And.intro (h2.below hb) (hT.below hb (Nat.le_refl _)))))))))
 have HC:=hid (And.intro hm (And.intro kn km))
 obtain ⟨g0,g1,g2⟩:=tV n m hm
 have HG:=hid (And.intro g0 (And.intro g1 g2))
 clear h1 h2 hb hs hx hy hsz hm hT kn km g0 g1 g2
 go_enter Tryz.func31,Tryz.ntmps31
 go_wp2_with fail
 obtain ⟨W0,hW0⟩:∃ W0,((w.alloc (.cells #[.bool b,.int .u64 x,.slice p l q] 30)).alloc (.cells #[.int .u64 x',.slice p' l' q'] 28)).alloc (.cells #[.bool false,.int .u64 0,.slice none 0 0,.int .u64 0,.slice none 0 0] 32)=W0:=⟨_,rfl⟩
 rw [hW0] at HH ⊢
 clear hW0
 refine (KR n m k _ _ _ _ _ HH.out.2.2.2.2.2.1 HH.out.2.2.2.2.2.2.1 hk HC.out.2.1 HC.out.2.2 HH.out.2.2.2.2.2.2.2).mono ?_
 rintro e w1 ⟨gc,gd,rfl,hg,hB1⟩
 obtain ⟨gx,gp,gl,gq,rfl,rfl⟩:=hg.shape
 obtain ⟨hb,hs,hx,hy,hsz,m1,m2,hT⟩:=HH.out
 have hBa:=hB1.trans (((Below.refl w1.heap.size w1).alloc (Nat.le_refl _) (.cells #[.int .u64 gx,.slice gp gl gq] 28)).mono hB1.size)
 have hsz1:w.heap.size+3≤w1.heap.size:=by have:=hB1.size;omega
 have hS:C3 (w1.alloc (.cells #[.int .u64 gx,.slice gp gl gq] 28)) w.heap.size (.bool b) (.int .u64 x) (.slice p l q)∧C2 (w1.alloc (.cells #[.int .u64 gx,.slice gp gl gq] 28)) (w.heap.size+1) (.int .u64 x') (.slice p' l' q')∧C2 (w1.alloc (.cells #[.int .u64 gx,.slice gp gl gq] 28)) w1.heap.size (.int .u64 gx) (.slice gp gl gq):=by
  refine ⟨hx.below hBa (by omega),hy.below hBa (by omega),⟨?_,?_⟩⟩ <;> go_simp
 have HM:=hid (And.intro (m1.below hBa) (And.intro (m2.below hBa) (And.intro (hg.below ((Below.refl w1.heap.size w1).alloc (Nat.le_refl _) (.cells #[.int .u64 gx,.slice gp gl gq] 28))) (And.intro (hb.trans (hBa.mono hb.size)) (hs.below hBa (by omega))))))
 have hG1:w1.heap.size<(w1.alloc (.cells #[.int .u64 gx,.slice gp gl gq] 28)).heap.size:=by simp
 clear hb hs hx hy hsz m1 m2 hT HH hB1 hBa hg
 go_wp2_with fail
 obtain ⟨G,hG⟩:∃ G,w1.heap.size=G:=⟨_,rfl⟩
 obtain ⟨W1,hW1⟩:∃ W1,w1.alloc (.cells #[.int .u64 gx,.slice gp gl gq] 28)=W1:=⟨_,rfl⟩
 rw [hW1] at HM hS hG1 ⊢
 rw [hG] at hS hsz1 hG1 ⊢
 clear hW1 hG
 have HLow:=hid (fun (W:World) (c d e f:Value) (h1:ah W c d (n / Nat.gcd n m)) (h2:ah W e f (m / Nat.gcd n m))=>KG b c d e f (n / Nat.gcd n m) (m / Nat.gcd n m) W h1 h2 HG.out.2.1 HG.out.2.2)
 rw [KW b n m (Nat.gcd n m) HC.out.1 HG.out.1 (Nat.gcd_dvd_left n m) (Nat.gcd_dvd_right n m)] at HLow
 obtain ⟨R,hR⟩:∃ R,mkRat (zs b n) m=R:=⟨_,rfl⟩
 rw [hR] at HLow
 have HR:=hid hR
 clear hR
 have hsG:w.heap.size+1+1<W1.heap.size:=by omega
 have hsR:w.heap.size≤w.heap.size+1+1:=by omega
 have hg0:=hid (Nat.pos_of_ne_zero HG.out.1)
 have hk2:k≤137438953472:=by omega
 have hS':=hS
 clear hS
 refine jA 11 [⟨[],[0]⟩,⟨[0],[1]⟩,⟨[],[2]⟩,⟨[2],[3]⟩,⟨[],[4]⟩,⟨[3,4],[5]⟩,⟨[1,5],[6]⟩,⟨[],[7]⟩,⟨[],[8]⟩,⟨[7,8],[9]⟩,⟨[6,9],[10]⟩]
  [one fun v _=>v=.pointer (some ⟨w.heap.size,0,none⟩),one fun v _=>v=.bool b,one fun v _=>v=.pointer (some ⟨w.heap.size,1,none⟩),one fun v _=>v=.agg #[.int .u64 x,.slice p l q],one fun v _=>v=.agg #[.int .u64 gx,.slice gp gl gq],
   one (dW (n / Nat.gcd n m)),one (xB b (n / Nat.gcd n m)),one fun v _=>v=.agg #[.int .u64 x',.slice p' l' q'],one fun v _=>v=.agg #[.int .u64 gx,.slice gp gl gq],one (dW (m / Nat.gcd n m)),one fun v W=>IsQ W v R]
  (fun _ W=>Below W1.heap.size W1 W) (by kernel_rfl) (by kernel_rfl) ?hT (Below.refl _ _).drew ?hO ?hE
 case hT =>
  simp only [List.forall_mem_cons,List.not_mem_nil,false_imp_iff,implies_true,and_true]
  exact ⟨aS jP,aS jP,aS jP,aS jP,aS jP,aS oO,aS Zr,aS jP,aS jP,aS oO,aS jv⟩
 case hO =>
  intro u
  simp only [List.take_succ_cons,List.take_zero,aJ]
  repeat' (first | with_reducible exact gZ | with_reducible refine gY ?_ ?_)
  ·intro W hS hF K hK
   clear hF
   go_simp
   exact hK _ _ (.refl _ _) hS rfl
  ·intro W hS hF K hK
   have h0:u 0=.pointer (some ⟨w.heap.size,0,none⟩):=hF.1
   have c0:=cB hS hS'.1.1 (by omega)
   clear hF
   go_simp
   exact hK _ _ (.refl _ _) hS rfl
  ·intro W hS hF K hK
   clear hF
   go_simp
   exact hK _ _ (.refl _ _) hS rfl
  ·intro W hS hF K hK
   have h2:u 2=.pointer (some ⟨w.heap.size,1,none⟩):=hF.1
   have c1:=cB hS hS'.1.2.1 (by omega)
   have c2:=cB hS hS'.1.2.2 (by omega)
   clear hF
   go_simp
   exact hK _ _ (.refl _ _) hS rfl
  ·intro W hS hF K hK
   have c1:=cB hS hS'.2.2.1 (by omega)
   have c2:=cB hS hS'.2.2.2 (by omega)
   clear hF
   go_simp
   exact hK _ _ (.refl _ _) hS rfl
  ·intro W hS hF K hK
   have h3:u 3=.agg #[.int .u64 x,.slice p l q]:=hF.1
   have h4:u 4=.agg #[.int .u64 gx,.slice gp gl gq]:=hF.2.1
   clear hF
   go_simp
   refine (wI n (Nat.gcd n m) k _ _ _ _ _ (HM.out.1.below hS) (HM.out.2.2.1.below hS) hg0.out hk2 HC.out.2.1).mono ?_
   rintro e wA ⟨ac,ad,rfl,hmA,hBA⟩
   obtain ⟨ax,ap,al,aq,rfl,rfl⟩:=hmA.shape
   exact ⟨_,rfl,hK _ _ hBA (hS.trans (hBA.mono hS.size)) ⟨_,_,_,_,rfl,hmA⟩⟩
  ·intro W hS hF K hK
   have h1:u 1=.bool b:=hF.1
   obtain ⟨ax,ap,al,aq,h5,hm⟩:dW (n / Nat.gcd n m) (u 5) W:=hF.2.1
   clear hF
   go_simp
   exact hK _ _ (.refl _ _) hS ⟨_,_,_,_,rfl,hm⟩
  ·intro W hS hF K hK
   have c1:=cB hS hS'.2.1.1 (by omega)
   have c2:=cB hS hS'.2.1.2 (by omega)
   clear hF
   go_simp
   exact hK _ _ (.refl _ _) hS rfl
  ·intro W hS hF K hK
   have c1:=cB hS hS'.2.2.1 (by omega)
   have c2:=cB hS hS'.2.2.2 (by omega)
   clear hF
   go_simp
   exact hK _ _ (.refl _ _) hS rfl
  ·intro W hS hF K hK
   have h7:u 7=.agg #[.int .u64 x',.slice p' l' q']:=hF.1
   have h8:u 8=.agg #[.int .u64 gx,.slice gp gl gq]:=hF.2.1
   clear hF
   go_simp
   refine (wI m (Nat.gcd n m) k _ _ _ _ _ (HM.out.2.1.below hS) (HM.out.2.2.1.below hS) hg0.out hk2 HC.out.2.2).mono ?_
   rintro e wA ⟨ac,ad,rfl,hmA,hBA⟩
   obtain ⟨ax,ap,al,aq,rfl,rfl⟩:=hmA.shape
   exact ⟨_,rfl,hK _ _ hBA (hS.trans (hBA.mono hS.size)) ⟨_,_,_,_,rfl,hmA⟩⟩
  ·intro W hS hF K hK
   obtain ⟨ax,ap,al,aq,h6,hm⟩:xB b (n / Nat.gcd n m) (u 6) W:=hF.1
   obtain ⟨bx,bp,bl,bq,h9,hm2⟩:dW (m / Nat.gcd n m) (u 9) W:=hF.2.1
   clear hF
   go_simp
   refine (HLow.out _ _ _ _ _ hm hm2).mono ?_
   rintro e wC ⟨v,rfl,hv,hBC⟩
   exact ⟨_,rfl,hK _ _ hBC (hS.trans (hBC.mono hS.size)) hv⟩
 case hE =>
  intro u W hS hF
  have hv:IsQ W (u 10) R:=hF.2.2.2.2.2.2.2.2.2.2.1
  clear hF
  simp only [List.take_succ_cons,List.take_zero,aJ,List.drop_succ_cons,List.drop_zero]
  obtain ⟨t0,sx,sp,sl,sq,tx,tp,tl,tq,h10,hv1,hv2,ht⟩:=hv.shape
  have hqs:=HM.out.2.2.2.2.below hS hsG
  obtain ⟨r0,r1,r2,r3,r4,⟨c0,c1,c2,c3,c4⟩,f0,f1,f2,f3,f4⟩:=hqs.facts
  obtain ⟨⟨z0,z1,z2,z3,z4⟩,hH⟩:=hqs.doneQ (HM.out.2.2.2.1.trans (hS.mono HM.out.2.2.2.1.size)) hsR hv1 hv2 ht
  clear hqs hv hv1 hv2 ht hS hS'
  go_wp2_with fail
  exact bodyPost_ret (v:=.agg #[.bool t0,.int .u64 sx,.slice sp sl sq,.int .u64 tx,.slice tp tl tq]) (by simp [results,Tryz.results31,go_sem,z0,z1,z2,z3,z4]) rfl (by rw [HR.out];exact ⟨_,rfl,hH.out.1,hH.out.2⟩)
end
section
open Go.RowKit Go.Sort
structure iM (w W:World) (t1:Bool) (c1 d1 e1 f1:Value) (t2:Bool) (c2 d2 e2 f2:Value) (n1 m1 n2 m2:Nat):Prop where
 b1:C5 W w.heap.size (.bool t1) c1 d1 e1 f1
 b2:C5 W (w.heap.size+1) (.bool t2) c2 d2 e2 f2
 rs:fV W (w.heap.size+1+1)
 i1:ah W c1 d1 n1
 j1:ah W e1 f1 m1
 i2:ah W c2 d2 n2
 j2:ah W e2 f2 m2
 bel:Below w.heap.size w W
 sz:w.heap.size+3≤W.heap.size
 tab0:Tab w
theorem iM.next {w W W':World} {t1 t2:Bool} {c1 d1 e1 f1 c2 d2 e2 f2:Value} {n1 m1 n2 m2:Nat} (h:iM w W t1 c1 d1 e1 f1 t2 c2 d2 e2 f2 n1 m1 n2 m2) (hb:Below W.heap.size W W') :
  iM w W' t1 c1 d1 e1 f1 t2 c2 d2 e2 f2 n1 m1 n2 m2 where
 b1:=C5.below h.b1 hb (by have:=h.sz;omega)
 b2:=C5.below h.b2 hb (by have:=h.sz;omega)
 rs:=h.rs.below hb (by have:=h.sz;omega)
 i1:=h.i1.below hb
 j1:=h.j1.below hb
 i2:=h.i2.below hb
 j2:=h.j2.below hb
 bel:=h.bel.trans (hb.mono h.bel.size)
 sz:=Nat.le_trans h.sz hb.size
 tab0:=h.tab0
theorem iM.tab {w W:World} {t1 t2:Bool} {c1 d1 e1 f1 c2 d2 e2 f2:Value} {n1 m1 n2 m2:Nat} (h:iM w W t1 c1 d1 e1 f1 t2 c2 d2 e2 f2 n1 m1 n2 m2):Tab W:=h.tab0.below h.bel (Nat.le_refl _)
theorem Gm {W:World} {L:Nat} {u v:Value} (a:Addr) (ha:a.block≠L):(set2 W L u v).cell? a=W.cell? a:=by
 rw [World.cell?_setCell_far _ _ _ _ (Ne.symm ha),World.cell?_setCell_far _ _ _ _ (Ne.symm ha)]
theorem iM.set2 {w W:World} {t1 t2:Bool} {c1 d1 e1 f1 c2 d2 e2 f2 u v:Value} {n1 m1 n2 m2 L:Nat} (h:iM w W t1 c1 d1 e1 f1 t2 c2 d2 e2 f2 n1 m1 n2 m2) (hL:w.heap.size+3≤L) (hs:Slot W L) :
  iM w (set2 W L u v) t1 c1 d1 e1 f1 t2 c2 d2 e2 f2 n1 m1 n2 m2:=by
 obtain ⟨⟨a0,a1,a2,a3,a4⟩,⟨b0,b1,b2,b3,b4⟩,⟨⟨t,r0⟩,⟨x,r1⟩,⟨p,l,c,r2⟩,⟨y,r3⟩,⟨p',l',c',r4⟩,g0,g1,g2,g3,g4⟩,i1,j1,i2,j2,bel,sz,tab0⟩:=h
 refine ⟨⟨?_,?_,?_,?_,?_⟩,⟨?_,?_,?_,?_,?_⟩,⟨⟨t,?_⟩,⟨x,?_⟩,⟨p,l,c,?_⟩,⟨y,?_⟩,⟨p',l',c',?_⟩,?_,?_,?_,?_,?_⟩,hs.mag i1,hs.mag j1,hs.mag i2,hs.mag j2,(bel.setCell (by simp only;omega) _).setCell (by simp only;omega) _,by simpa using sz,tab0⟩
 all_goals first | (simp only [World.frozen?_setCell];assumption) | (rw [Gm _ (by simp only;omega)];assumption)
structure Loc (w W:World) (L:Nat) (c d:Value) (n:Nat):Prop where
 cs:C2 W L c d
 im:ah W c d n
 lo:w.heap.size+3≤L
 hi:L<W.heap.size
theorem Loc.next {w W W':World} {L n:Nat} {c d:Value} (h:Loc w W L c d n) (hb:Below W.heap.size W W'):Loc w W' L c d n:=
 ⟨C2.below h.cs hb h.hi,h.im.below hb,h.lo,Nat.lt_of_lt_of_le h.hi hb.size⟩
theorem Loc.far {w W:World} {L L' n:Nat} {c d u v:Value} (h:Loc w W L c d n) (hs:Slot W L') (hne:L≠L'):Loc w (Go.Proofs.YtancpaiaoamjlaaGreatDoor.set2 W L' u v) L c d n:=
 ⟨⟨by rw [Gm _ hne];exact h.cs.1,by rw [Gm _ hne];exact h.cs.2⟩,hs.mag h.im,h.lo,by simpa using h.hi⟩
theorem Loc.own {w W:World} {L n:Nat} {c d:Value} (hs:Slot W L) (hm:ah W c d n) (lo:w.heap.size+3≤L) (hi:L<W.heap.size):Loc w (Go.Proofs.YtancpaiaoamjlaaGreatDoor.set2 W L c d) L c d n:=
 ⟨hs.read c d,hs.mag hm,lo,by simpa using hi⟩
theorem iM.start {w:World} (t1 t2:Bool) (c1 d1 e1 f1 c2 d2 e2 f2:Value) (n1 m1 n2 m2:Nat) (T1 T2 T3:TypeId) (i1:ah w c1 d1 n1) (j1:ah w e1 f1 m1) (i2:ah w c2 d2 n2) (j2:ah w e2 f2 m2) (hT:Tab w) :
  iM w (((w.alloc (.cells #[.bool t1,c1,d1,e1,f1] T1)).alloc (.cells #[.bool t2,c2,d2,e2,f2] T2)).alloc (.cells #[.bool false,.int .u64 0,.slice none 0 0,.int .u64 0,.slice none 0 0] T3)) t1 c1 d1 e1 f1 t2 c2 d2 e2 f2 n1 m1 n2 m2:=by
 have hb:=(((Below.refl w.heap.size w).alloc (Nat.le_refl _) (.cells #[.bool t1,c1,d1,e1,f1] T1)).alloc (by simp) (.cells #[.bool t2,c2,d2,e2,f2] T2)).alloc (by simp;omega) (.cells #[.bool false,.int .u64 0,.slice none 0 0,.int .u64 0,.slice none 0 0] T3)
 refine ⟨⟨?_,?_,?_,?_,?_⟩,⟨?_,?_,?_,?_,?_⟩,⟨⟨false,?_⟩,⟨0,?_⟩,⟨none,0,0,?_⟩,⟨0,?_⟩,⟨none,0,0,?_⟩,?_,?_,?_,?_,?_⟩,i1.below hb,j1.below hb,i2.below hb,j2.below hb,hb,by simp,hT⟩ <;> go_simp
end
end Go.Proofs.YtancpaiaoamjlaaGreatDoor
