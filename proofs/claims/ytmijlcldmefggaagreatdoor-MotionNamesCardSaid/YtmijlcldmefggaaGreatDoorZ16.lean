/- What the proof rests on, part 16. -/
import Derived.Test.YtmijlcldmefggaaGreatDoorZ15
import Derived.Test.YtmijlcldmefggaaGreatDoorZ05
import Derived.Test.YtmijlcldmefggaaGreatDoorZ06
namespace Go.Proofs.YtmijlcldmefggaaGreatDoor
set_option maxRecDepth 100000
set_option maxHeartbeats 80000000
namespace Rx
open Go.RowKit
inductive Fm
 | m (s i:Nat)
 | w (s:Nat)
def Fm.nm:Fm→List Nat
 | .m s _=>[s]
 | .w s=>[s,s+1]
def Fm.on (β:Nat→Nat) (r:Rat) (ρ:Env):Fm→World→Prop
 | .m s i,W=>IsMag W (.int .u64 (ρ s).u) (.slice (ρ s).p (ρ s).l (ρ s).c) (β i)
 | .w s,W=>IsQ W (.agg ((numC s).map (Cell.den ρ)).toArray) r
def SM (β:Nat→Nat) (r:Rat):Sys where
 F:=Fm
 nm:=Fm.nm
 on:=Fm.on β r
 okC:=okC
 cg:=fun {ρ ρ' f W} h hf=>by
  cases f with
  | m s i=>simp only [Fm.on] at hf ⊢;rw [← h s (by simp [Fm.nm])];exact hf
  | w s =>
   simp only [Fm.nm,List.mem_cons,List.not_mem_nil,or_false] at h
   simp only [Fm.on] at hf ⊢
   rwa [cells_congr (ρ:=ρ') (ρ':=ρ) (l:=numC s) fun n hn=>(h n (by simpa [numC,Cell.nm] using hn)).symm]
 bl:=fun {ρ f W W'} hb hf=>by
  cases f with
  | m s i=>exact IsMag.below hf hb
  | w s=>exact IsQ.below hf hb
 st:=fun {ρ f W b T cs i u} hok _ hb hf=>by
  have hv:=okC_okVs ρ hok
  have hb':Go.Proofs.YtmijlcldmefggaaGreatDoor.Bx W b T (cs.map (Cell.den ρ)):=hb
  cases f with
  | m s i=>exact IsMag.setBox hf hb' hv
  | w s=>exact IsQ.setBox hf hb' hv
def HM (β:Nat→Nat) (r:Rat):Tests (SM β r) where
 eq:=fun _ _ _=>none
 ok:=fun h=>(by cases h)
inductive A
 | b (t:Bool)
 | m (i:Nat)
 | q
def IsA (β:Nat→Nat) (r:Rat) (W:World):List A→List Value→Prop
 | [],[]=>True
 | .b t :: l,v :: vs=>v=.bool t∧IsA β r W l vs
 | .m i :: l,c :: d :: vs=>IsMag W c d (β i)∧IsA β r W l vs
 | .q :: l,a :: b :: c :: d :: e :: vs=>IsQ W (.agg #[a,b,c,d,e]) r∧IsA β r W l vs
 | _,_=>False
def findMg:List Fm→Nat→Option Nat
 | [],_=>none
 | .m s i :: r,n=>if s=n then some i else findMg r n
 | _ :: r,n=>findMg r n
def hasW:List Fm→Nat→Bool
 | [],_=>false
 | .w s :: r,n=>s == n || hasW r n
 | _ :: r,n=>hasW r n
theorem findMg_mem {n i:Nat}:∀ {db:List Fm},findMg db n=some i→.m n i∈db
 | [],h=>by simp [findMg] at h
 | f :: r,h=>by
  cases f with
  | m s j =>
   simp only [findMg] at h
   split at h
   ·rename_i hs;cases h;subst hs;simp
   ·exact List.mem_cons_of_mem _ (findMg_mem h)
  | w s=>exact List.mem_cons_of_mem _ (findMg_mem h)
theorem hasW_mem {n:Nat}:∀ {db:List Fm},hasW db n=true→.w n∈db
 | [],h=>by simp [hasW] at h
 | f :: r,h=>by
  cases f with
  | w s =>
   simp only [hasW,Bool.or_eq_true,beq_iff_eq] at h
   rcases h with h | h
   ·subst h;simp
   ·exact List.mem_cons_of_mem _ (hasW_mem h)
  | m s j=>exact List.mem_cons_of_mem _ (hasW_mem h)
def litB (ls:List (Nat×Nat)) (i:Nat) (n:Int):Bool:=ls.any fun p=>p.1 == i && decide ((p.2:Int)=n)
def asA (ls:List (Nat×Nat)) (db:List Fm):List A→List Cell→Bool
 | [],[]=>true
 | .b t :: l,.bl x :: cs=>x == t && asA ls db l cs
 | .m i :: l,.ou a :: .os b :: cs=>a == b && findMg db a == some i && asA ls db l cs
 | .m i :: l,.it .u64 n :: .nils :: cs=>litB ls i n && asA ls db l cs
 | .q :: l,.ob a :: .ou b :: .os c :: .ou d :: .os e :: cs=>a == b && a == c && a+1 == d && a+1 == e && hasW db a && asA ls db l cs
 | _,_=>false
def cellsA:List A→Nat→List Cell
 | [],_=>[]
 | .b t :: l,s=>.bl t :: cellsA l s
 | .m _ :: l,s=>.ou s :: .os s :: cellsA l (s+1)
 | .q :: l,s=>numC s ++ cellsA l (s+2)
def factsA:List A→Nat→List Fm
 | [],_=>[]
 | .b _ :: l,s=>factsA l s
 | .m i :: l,s=>.m s i :: factsA l (s+1)
 | .q :: l,s=>.w s :: factsA l (s+2)
def lenA:List A→Nat
 | []=>0
 | .b _ :: l=>lenA l
 | .m _ :: l=>lenA l+1
 | .q :: l=>lenA l+2
section
variable {β:Nat→Nat} {r:Rat} {ρ:Env} {W:World} {db:List Fm} {ls:List (Nat×Nat)}
theorem asA_ok (hls:∀ p∈ls,β p.1=p.2∧p.2<B64) (hf:∀ f∈db,(SM β r).on ρ f W):∀ {l:List A} {cs:List Cell},asA ls db l cs=true→IsA β r W l (cs.map (Cell.den ρ))
 | [],[],_=>trivial
 | [],_ :: _,h=>by simp [asA] at h
 | a :: l,cs,h=>by
  unfold asA at h
  split at h
  ·rename_i heq;cases heq
  ·rename_i heq;cases heq
   simp only [Bool.and_eq_true,beq_iff_eq] at h
   exact ⟨by rw [← h.1];rfl,asA_ok hls hf h.2⟩
  ·rename_i heq;cases heq
   simp only [Bool.and_eq_true,beq_iff_eq] at h
   obtain ⟨⟨h1,h2⟩,h3⟩:=h
   subst h1
   exact ⟨hf _ (findMg_mem h2),asA_ok hls hf h3⟩
  ·rename_i heq;cases heq
   simp only [Bool.and_eq_true] at h
   obtain ⟨h1,h3⟩:=h
   obtain ⟨p,hp,h4⟩:=List.any_eq_true.1 h1
   simp only [Bool.and_eq_true,beq_iff_eq,decide_eq_true_eq] at h4
   obtain ⟨h5,h6⟩:=hls p hp
   refine ⟨?_,asA_ok hls hf h3⟩
   rw [← h4.1,h5]
   exact .inl ⟨h6,by rw [← h4.2];rfl,rfl⟩
  ·rename_i heq;cases heq
   simp only [Bool.and_eq_true,beq_iff_eq] at h
   obtain ⟨⟨⟨⟨⟨h1,h2⟩,h3⟩,h4⟩,h5⟩,h6⟩:=h
   subst h1 h2 h3 h4
   exact ⟨hf _ (hasW_mem h5),asA_ok hls hf h6⟩
  ·cases h
theorem nameA':∀ {l:List A} {vs:List Value},IsA β r W l vs→∃ L:List Nv,L.length=lenA l∧∀ (ρ':Env) s,(∀ i,i<lenA l→ρ' (s+i)=L[i]?.getD default)→(cellsA l s).map (Cell.den ρ')=vs∧∀ f∈factsA l s,(SM β r).on ρ' f W
 | [],[],_=>⟨[],rfl,fun ρ' s _=>⟨rfl,fun f hf=>by simp [factsA] at hf⟩⟩
 | [],_ :: _,h=>h.elim
 | .b t :: l,[],h=>h.elim
 | .b t :: l,v :: vs,h=>by
  obtain ⟨h1,h2⟩:v=.bool t∧IsA β r W l vs:=h
  obtain ⟨L,h3,h4⟩:=nameA' h2
  refine ⟨L,h3,fun ρ' s hρ=>?_⟩
  obtain ⟨g1,g2⟩:=h4 ρ' s hρ
  exact ⟨by simp only [cellsA,List.map_cons,g1];rw [h1];rfl,g2⟩
 | .m i :: l,[],h=>h.elim
 | .m i :: l,[_],h=>h.elim
 | .m i :: l,c :: d :: vs,h=>by
  obtain ⟨h1,h2⟩:IsMag W c d (β i)∧IsA β r W l vs:=h
  obtain ⟨x,p,k,q,rfl,rfl⟩:=h1.shape
  obtain ⟨L,h3,h4⟩:=nameA' h2
  refine ⟨⟨false,x,p,k,q,.empty,0,default⟩ :: L,by simp [h3,lenA],fun ρ' s hρ=>?_⟩
  have h0:=hρ 0 (by simp [lenA])
  simp only [Nat.add_zero,List.getElem?_cons_zero,Option.getD_some] at h0
  obtain ⟨g1,g2⟩:=h4 ρ' (s+1) (fun j hj=>by
   have:=hρ (j+1) (by simp only [lenA];omega)
   rw [show s+1+j=s+(j+1) by omega,this];rfl)
  refine ⟨by simp [cellsA,g1,Cell.den,h0],fun f hf=>?_⟩
  simp only [factsA,List.mem_cons] at hf
  rcases hf with rfl | hf
  ·show IsMag W (.int .u64 (ρ' s).u) (.slice (ρ' s).p (ρ' s).l (ρ' s).c) (β i)
   rw [h0];exact h1
  ·exact g2 f hf
 | .q :: l,[],h=>h.elim
 | .q :: l,[_],h=>h.elim
 | .q :: l,[_,_],h=>h.elim
 | .q :: l,[_,_,_],h=>h.elim
 | .q :: l,[_,_,_,_],h=>h.elim
 | .q :: l,a :: b :: c :: d :: e :: vs,h=>by
  obtain ⟨h1,h2⟩:IsQ W (.agg #[a,b,c,d,e]) r∧IsA β r W l vs:=h
  obtain ⟨t,x,p,k,q,y,p',k',q',hv,-,-,-⟩:=IsQ.shape h1
  have hv':=congrArg Array.toList (Value.agg.inj hv)
  simp only [List.cons.injEq,and_true] at hv'
  obtain ⟨rfl,rfl,rfl,rfl,rfl⟩:=hv'
  obtain ⟨L,h3,h4⟩:=nameA' h2
  refine ⟨⟨t,x,p,k,q,.empty,0,default⟩ :: ⟨false,y,p',k',q',.empty,0,default⟩ :: L,by simp [h3,lenA],fun ρ' s hρ=>?_⟩
  have h0:=hρ 0 (by simp [lenA])
  have h9:=hρ 1 (by simp [lenA])
  simp only [Nat.add_zero,List.getElem?_cons_zero,List.getElem?_cons_succ,Option.getD_some] at h0 h9
  obtain ⟨g1,g2⟩:=h4 ρ' (s+2) (fun j hj=>by
   have:=hρ (j+2) (by simp only [lenA];omega)
   rw [show s+2+j=s+(j+2) by omega,this];rfl)
  have hn:(numC s).map (Cell.den ρ')=[.bool t,.int .u64 x,.slice p k q,.int .u64 y,.slice p' k' q']:=by simp [numC,Cell.den,h0,h9]
  refine ⟨by simp [cellsA,g1,hn],fun f hf=>?_⟩
  simp only [factsA,List.mem_cons] at hf
  rcases hf with rfl | hf
  ·show IsQ W (.agg ((numC s).map (Cell.den ρ')).toArray) r
   rw [hn];exact h1
  ·exact g2 f hf
end
inductive Pt
 | c (l:List A)
 | i (n:Int)
inductive Rt
 | c (l:List A)
 | i (n:Int)
 | b (x:Bool)
 | p (l l':List A)
structure En where
 fn:FuncId
 args:List Pt
 res:Rt
def IsP (β:Nat→Nat) (r:Rat) (W:World):List Pt→List Value→Prop
 | [],[]=>True
 | .c l :: ps,v :: vs=>(∃ us,v=.agg us.toArray∧IsA β r W l us)∧IsP β r W ps vs
 | .i n :: ps,v :: vs=>v=.int .i64 n∧IsP β r W ps vs
 | _,_=>False
def RetP (β:Nat→Nat) (r:Rat) (w:World) (e:Ending) (W:World):Rt→Prop
 | .c l=>∃ us,e=.returned (.agg us.toArray)∧IsA β r W l us∧Below w.heap.size w W
 | .i n=>e=.returned (.int .i64 n)∧Below w.heap.size w W
 | .b x=>e=.returned (.bool x)∧Below w.heap.size w W
 | .p l l'=>∃ us us',e=.returned (.tuple #[.agg us.toArray,.agg us'.toArray])∧IsA β r W l us∧IsA β r W l' us'∧Below w.heap.size w W
def En.Ok (T:World→Prop) (β:Nat→Nat) (r:Rat) (e:En):Prop:=∀ W vs,IsP β r W e.args vs→T W→Calls Tryz.prog e.fn vs.toArray W fun x W'=>RetP β r W x W' e.res
def asP (ls:List (Nat×Nat)) (db:List Fm):List Pt→List SV→Bool
 | [],[]=>true
 | .c l :: ps,.e (.a cs) :: vs=>asA ls db l cs && asP ls db ps vs
 | .i n :: ps,.e (.s (.it .i64 x)) :: vs=>decide (x=n) && asP ls db ps vs
 | _,_=>false
def Rt.sv (b:Nat):Rt→SV
 | .c l=>.e (.a (cellsA l b))
 | .i n=>.e (.s (.it .i64 n))
 | .b x=>.e (.s (.bl x))
 | .p l l'=>.t [.a (cellsA l b),.a (cellsA l' (b+lenA l))]
def Rt.fs (b:Nat):Rt→List Fm
 | .c l=>factsA l b
 | .i _ | .b _=>[]
 | .p l l'=>factsA l b ++ factsA l' (b+lenA l)
def Rt.len:Rt→Nat
 | .c l=>lenA l
 | .i _ | .b _=>0
 | .p l l'=>lenA l+lenA l'
def conE (β:Nat→Nat) (r:Rat) (ls:List (Nat×Nat)) (e:En):Con (SM β r) where
 fn:=e.fn
 app:=fun db b args=>if asP ls db e.args args && decide (e.res.len≤M) then some (e.res.sv b,e.res.fs b) else none
section
variable {β:Nat→Nat} {r:Rat} {ls:List (Nat×Nat)}
theorem asP_ok {ρ:Env} {W:World} {db:List Fm} (hls:∀ p∈ls,β p.1=p.2∧p.2<B64) (hf:∀ f∈db,(SM β r).on ρ f W):∀ {ps:List Pt} {vs:List SV},asP ls db ps vs=true→IsP β r W ps (vs.map (SV.den ρ))
 | [],[],_=>trivial
 | [],_ :: _,h=>by simp [asP] at h
 | p :: ps,vs,h=>by
  unfold asP at h
  split at h
  ·rename_i heq;cases heq
  ·rename_i heq;cases heq
   simp only [Bool.and_eq_true] at h
   exact ⟨⟨_,rfl,asA_ok hls hf h.1⟩,asP_ok hls hf h.2⟩
  ·rename_i heq;cases heq
   simp only [Bool.and_eq_true,decide_eq_true_eq] at h
   exact ⟨by rw [← h.1];rfl,asP_ok hls hf h.2⟩
  ·cases h
theorem conE_ok {T:World→Prop} {e:En} (hls:∀ p∈ls,β p.1=p.2∧p.2<B64) (he:e.Ok T β r):(conE β r ls e).Ok Tryz.prog (SM β r) T:=by
 refine Con.ok0 rfl ?_
 intro db b args res new ha ρ W hf hE
 simp only [conE] at ha
 split at ha
 ·rename_i hh
  simp only [Bool.and_eq_true,decide_eq_true_eq] at hh
  cases ha
  refine (he W _ (asP_ok hls hf hh.1) hE).mono fun x W' hx=>?_
  obtain ⟨-,hlen⟩:=hh
  cases hr:e.res with
  | c l =>
   rw [hr] at hx hlen
   obtain ⟨us,h1,h2,h3⟩:=hx
   obtain ⟨L,h4,h5⟩:=nameA' h2
   obtain ⟨g1,g2⟩:=h5 (setL ρ b L) b (fun i hi=>by
    unfold setL
    rw [if_pos (by omega),Nat.add_sub_cancel_left,List.getElem?_eq_getElem (by omega)];rfl)
   exact ⟨setL ρ b L,setL_out (by rw [h4];exact hlen),by rw [h1];simp only [Rt.sv,SV.den,El.den,g1],h3,g2⟩
  | i n=>rw [hr] at hx;exact ⟨ρ,fun _ _=>rfl,hx.1,hx.2,fun f hf=>by cases hf⟩
  | b x=>rw [hr] at hx;exact ⟨ρ,fun _ _=>rfl,hx.1,hx.2,fun f hf=>by cases hf⟩
  | p l l' =>
   rw [hr] at hx hlen
   obtain ⟨us,us',h1,h2,h2',h3⟩:=hx
   obtain ⟨L,h4,h5⟩:=nameA' h2
   obtain ⟨L',h4',h5'⟩:=nameA' h2'
   have hs:∀ i,i<lenA l+lenA l'→setL ρ b (L ++ L') (b+i)=(L ++ L')[i]?.getD default:=fun i hi=>by
    unfold setL
    rw [if_pos (by omega),Nat.add_sub_cancel_left,List.getElem?_eq_getElem (by simp;omega)];rfl
   obtain ⟨g1,g2⟩:=h5 (setL ρ b (L ++ L')) b (fun i hi=>by rw [hs i (by omega),List.getElem?_append_left (by omega)])
   obtain ⟨g1',g2'⟩:=h5' (setL ρ b (L ++ L')) (b+lenA l) (fun i hi=>by rw [Nat.add_assoc,hs _ (by omega),List.getElem?_append_right (by omega),h4,Nat.add_sub_cancel_left])
   refine ⟨setL ρ b (L ++ L'),setL_out (by simp only [List.length_append,h4,h4'];exact hlen),by rw [h1];simp only [Rt.sv,SV.den,El.den,List.map_cons,List.map_nil,g1,g1'],h3,fun f hf=>?_⟩
   rcases List.mem_append.1 hf with hf | hf
   ·exact g2 f hf
   ·exact g2' f hf
 ·cases ha
def isW (z:Bool):Option (SV×List Fm)→Bool
 | some (.e (.a [.ob a,.ou b,.os c,.ou d,.os e]),fs)=>a == b && a == c && a+1 == d && a+1 == e && hasW fs a
 | some (.e (.a [.bl false,.it .u64 0,.nils,.it .u64 0,.nils]),_)=>z
 | _=>false
theorem isW_spec {z:Bool} {o:Option (SV×List Fm)} (h:isW z o=true):(∃ a fs,o=some (.e (.a (numC a)),fs)∧hasW fs a=true)∨∃ fs,o=some (.e (.a [.bl false,.it .u64 0,.nils,.it .u64 0,.nils]),fs)∧z=true:=by
 unfold isW at h
 split at h
 ·rename_i a b c d e fs
  simp only [Bool.and_eq_true,beq_iff_eq] at h
  obtain ⟨⟨⟨⟨h1,h2⟩,h3⟩,h4⟩,h5⟩:=h
  subst h1 h2 h3 h4
  exact .inl ⟨a,fs,rfl,h5⟩
 ·rename_i fs;exact .inr ⟨fs,rfl,h⟩
 ·cases h
theorem tab_below {w:World} (hT:Tab w):∀ W,Below w.heap.size w W→Tab W:=fun _ hb=>hT.below hb (Nat.le_refl _)
theorem run_w {T:World→Prop} {es:List En} {fuel:Nat} {f:FuncId} {args:List SV} {fs:List Fm} {b:Nat} {ρ:Env} {w:World} {z:Bool} (hls:∀ p∈ls,β p.1=p.2∧p.2<B64) (he:∀ e∈es,e.Ok T β r)
  (hr:isW z (runF Tryz.prog (SM β r) (HM β r) (es.map (conE β r ls)) fuel f args fs b)=true) (hz:z=true→r=0) (hT:∀ W,Below w.heap.size w W→T W) (hf:∀ g∈fs,Fm.on β r ρ g w):Calls Tryz.prog f (args.map (SV.den ρ)).toArray w (RetQ w r):=by
 have hc:∀ c∈es.map (conE β r ls),c.Ok Tryz.prog (SM β r) T:=fun c hc=>by
  obtain ⟨e,h1,rfl⟩:=List.mem_map.1 hc
  exact conE_ok hls (he e h1)
 rcases isW_spec hr with ⟨a,fs',heq,hw⟩ | ⟨fs',heq,hz'⟩
 ·exact (runF_ok mixed hc heq hT hf).mono fun x W' ⟨ρ',_,hx,hb,hfs⟩=>⟨_,hx,hfs _ (hasW_mem hw),hb⟩
 ·exact (runF_ok mixed hc heq hT hf).mono fun x W' ⟨ρ',_,hx,hb,hfs⟩=>⟨_,hx,by rw [hz hz'];exact isQ_zero _,hb⟩
def isIM (n:Int):Option (SV×List Fm)→Bool
 | some (.e (.s (.it .i64 x)),_)=>decide (x=n)
 | _=>false
theorem isIM_spec {n:Int} {o:Option (SV×List Fm)} (h:isIM n o=true):∃ fs,o=some (.e (.s (.it .i64 n)),fs):=by
 unfold isIM at h
 split at h
 ·rename_i x fs
  have:=of_decide_eq_true h
  subst this
  exact ⟨fs,rfl⟩
 ·cases h
theorem run_im {T:World→Prop} {es:List En} {fuel:Nat} {f:FuncId} {args:List SV} {fs:List Fm} {b:Nat} {ρ:Env} {w:World} {n:Int} (hls:∀ p∈ls,β p.1=p.2∧p.2<B64) (he:∀ e∈es,e.Ok T β r)
  (hr:isIM n (runF Tryz.prog (SM β r) (HM β r) (es.map (conE β r ls)) fuel f args fs b)=true) (hT:∀ W,Below w.heap.size w W→T W) (hf:∀ g∈fs,Fm.on β r ρ g w):Calls Tryz.prog f (args.map (SV.den ρ)).toArray w (RetI w (.int .i64 n)):=by
 have hc:∀ c∈es.map (conE β r ls),c.Ok Tryz.prog (SM β r) T:=fun c hc=>by
  obtain ⟨e,h1,rfl⟩:=List.mem_map.1 hc
  exact conE_ok hls (he e h1)
 obtain ⟨fs',heq⟩:=isIM_spec hr
 exact (runF_ok mixed hc heq hT hf).mono fun x W' ⟨ρ',_,hx,hb,_⟩=>⟨hx,hb⟩
def isSM (t:Bool) (i:Nat) (ls:List (Nat×Nat)):Option (SV×List Fm)→Bool
 | some (.e (.a (.bl x :: cs)),fs)=>x == t && asA ls fs [.m i] cs
 | _=>false
theorem isSM_spec {t:Bool} {i:Nat} {o:Option (SV×List Fm)} (h:isSM t i ls o=true):∃ cs fs,o=some (.e (.a (.bl t :: cs)),fs)∧asA ls fs [.m i] cs=true:=by
 unfold isSM at h
 split at h
 ·rename_i x cs fs
  simp only [Bool.and_eq_true,beq_iff_eq] at h
  exact ⟨cs,fs,by rw [h.1],h.2⟩
 ·cases h
theorem isA_one {W:World} {i:Nat} {vs:List Value} (h:IsA β r W [.m i] vs):∃ c d,vs=[c,d]∧IsMag W c d (β i):=by
 match vs,h with
 | [],h=>exact h.elim
 | [_],h=>exact h.elim
 | [c,d],h=>exact ⟨c,d,rfl,h.1⟩
 | _ :: _ :: _ :: _,h=>exact h.2.elim
theorem run_sm {T:World→Prop} {es:List En} {fuel:Nat} {f:FuncId} {args:List SV} {fs:List Fm} {b:Nat} {ρ:Env} {w:World} {t:Bool} {i:Nat} (hls:∀ p∈ls,β p.1=p.2∧p.2<B64) (he:∀ e∈es,e.Ok T β r)
  (hr:isSM t i ls (runF Tryz.prog (SM β r) (HM β r) (es.map (conE β r ls)) fuel f args fs b)=true) (hT:∀ W,Below w.heap.size w W→T W) (hf:∀ g∈fs,Fm.on β r ρ g w):Calls Tryz.prog f (args.map (SV.den ρ)).toArray w fun e W=>∃ c d,e=.returned (.agg #[.bool t,c,d])∧IsMag W c d (β i)∧Below w.heap.size w W:=by
 have hc:∀ c∈es.map (conE β r ls),c.Ok Tryz.prog (SM β r) T:=fun c hc=>by
  obtain ⟨e,h1,rfl⟩:=List.mem_map.1 hc
  exact conE_ok hls (he e h1)
 obtain ⟨cs,fs',heq,h2⟩:=isSM_spec hr
 refine (runF_ok mixed hc heq hT hf).mono fun x W' ⟨ρ',_,hx,hb,hfs⟩=>?_
 obtain ⟨c,d,h3,h4⟩:=isA_one (asA_ok hls hfs h2)
 refine ⟨c,d,?_,h4,hb⟩
 rw [hx];simp only [SV.den,El.den,List.map_cons,h3];rfl
variable {T:World→Prop}
theorem en_mm {f:FuncId} {i j k:Nat} (h:∀ c d e g W,IsMag W c d (β i)→IsMag W e g (β j)→T W→Calls Tryz.prog f #[.agg #[c,d],.agg #[e,g]] W (RetM W (β k))):(⟨f,[.c [.m i],.c [.m j]],.c [.m k]⟩:En).Ok T β r:=by
 intro W vs hv hT
 match vs,hv with
 | [v,v'],⟨⟨us,hu,ha⟩,⟨us',hu',ha'⟩,_⟩ =>
  obtain ⟨c,d,rfl,h1⟩:=isA_one ha
  obtain ⟨e,g,rfl,h2⟩:=isA_one ha'
  subst hu hu'
  exact (h c d e g W h1 h2 hT).mono fun x W' ⟨c',d',hx,hm,hb⟩=>⟨[c',d'],hx,⟨hm,trivial⟩,hb⟩
theorem en_mi {f:FuncId} {i j:Nat} {n:Int} (h:∀ c d e g W,IsMag W c d (β i)→IsMag W e g (β j)→Calls Tryz.prog f #[.agg #[c,d],.agg #[e,g]] W (RetI W (.int .i64 n))):(⟨f,[.c [.m i],.c [.m j]],.i n⟩:En).Ok T β r:=by
 intro W vs hv hT
 match vs,hv with
 | [v,v'],⟨⟨us,hu,ha⟩,⟨us',hu',ha'⟩,_⟩ =>
  obtain ⟨c,d,rfl,h1⟩:=isA_one ha
  obtain ⟨e,g,rfl,h2⟩:=isA_one ha'
  subst hu hu'
  exact h c d e g W h1 h2
theorem isA_num {W:World} {t:Bool} {i j:Nat} {vs:List Value} (h:IsA β r W [.b t,.m i,.m j] vs):∃ c d e g,vs=[.bool t,c,d,e,g]∧IsMag W c d (β i)∧IsMag W e g (β j):=by
 match vs,h with
 | [],h=>exact h.elim
 | [_],h=>exact h.2.elim
 | [_,_],h=>exact h.2.elim
 | [_,_,_],h=>exact h.2.2.elim
 | [_,_,_,_],h=>exact h.2.2.elim
 | [v,c,d,e,g],h=>exact ⟨c,d,e,g,by rw [h.1],h.2.1,h.2.2.1⟩
 | _ :: _ :: _ :: _ :: _ :: _ :: _,h=>exact h.2.2.2.elim
theorem isA_sig {W:World} {t:Bool} {i:Nat} {vs:List Value} (h:IsA β r W [.b t,.m i] vs):∃ c d,vs=[.bool t,c,d]∧IsMag W c d (β i):=by
 match vs,h with
 | [],h=>exact h.elim
 | [_],h=>exact h.2.elim
 | [_,_],h=>exact h.2.elim
 | [v,c,d],h=>exact ⟨c,d,by rw [h.1],h.2.1⟩
 | _ :: _ :: _ :: _ :: _,h=>exact h.2.2.elim
theorem en_n {f:FuncId} {t:Bool} {i j:Nat} {R:Rt} (h:∀ c d e g W,IsMag W c d (β i)→IsMag W e g (β j)→Calls Tryz.prog f #[.agg #[.bool t,c,d,e,g]] W fun x W'=>RetP β r W x W' R):(⟨f,[.c [.b t,.m i,.m j]],R⟩:En).Ok T β r:=by
 intro W vs hv hT
 match vs,hv with
 | [v],⟨⟨us,hu,ha⟩,_⟩ =>
  obtain ⟨c,d,e,g,rfl,h1,h2⟩:=isA_num ha
  subst hu
  exact h c d e g W h1 h2
theorem en_s {f:FuncId} {t:Bool} {i:Nat} {R:Rt} (h:∀ c d W,IsMag W c d (β i)→Calls Tryz.prog f #[.agg #[.bool t,c,d]] W fun x W'=>RetP β r W x W' R):(⟨f,[.c [.b t,.m i]],R⟩:En).Ok T β r:=by
 intro W vs hv hT
 match vs,hv with
 | [v],⟨⟨us,hu,ha⟩,_⟩ =>
  obtain ⟨c,d,rfl,h1⟩:=isA_sig ha
  subst hu
  exact h c d W h1
theorem en_sign {t:Bool} {i j:Nat} {n:Int} (h:sgn t (β i)=n):(⟨7,[.c [.b t,.m i,.m j]],.i n⟩:En).Ok T β r:=en_n fun c d e g W h1 _=>by
 have:=Sign_calls t c d e g (β i) W h1
 rw [h] at this
 exact this
theorem en_sgn {t:Bool} {i:Nat} {n:Int} (h:sgn t (β i)=n):(⟨44,[.c [.b t,.m i]],.i n⟩:En).Ok T β r:=en_s fun c d W h1=>by
 have:=sign_calls t c d (β i) W h1
 rw [h] at this
 exact this
theorem en_isWhole {t x:Bool} {i j:Nat} (h:(β j == 0)=x):(⟨53,[.c [.b t,.m i,.m j]],.b x⟩:En).Ok T β r:=en_n fun c d e g W _ h2=>by
 have:=isWhole_calls (.bool t) c d e g (β j) W h2
 rw [h] at this
 exact this
theorem en_under {t:Bool} {i j k:Nat} (h:undN (β j)=β k):(⟨55,[.c [.b t,.m i,.m j]],.c [.m k]⟩:En).Ok T β r:=en_n fun c d e g W _ h2=>by
 have:=under_calls (.bool t) c d e g (β j) W h2
 rw [h] at this
 exact this.mono fun x W' ⟨c',d',hx,hm,hb⟩=>⟨[c',d'],hx,⟨hm,trivial⟩,hb⟩
theorem isQ_five {W:World} {v:Value} {s:Rat} (h:IsQ W v s):∃ us,v=.agg us.toArray∧IsA β s W [.q] us:=by
 obtain ⟨t,x,p,l,q,y,p',s',u,rfl,-,-,-⟩:=IsQ.shape h
 exact ⟨_,rfl,h,trivial⟩
theorem en_lowest {t:Bool} {i j:Nat} (hc:Nat.Coprime (β i) (β j)) (hm:β j≠0) (hr:mkRat (zs t (β i)) (β j)=r):(⟨59,[.c [.b t,.m i],.c [.m j]],.c [.q]⟩:En).Ok T β r:=by
 intro W vs hv hT
 match vs,hv with
 | [v,v'],⟨⟨us,hu,ha⟩,⟨us',hu',ha'⟩,_⟩ =>
  obtain ⟨c,d,rfl,h1⟩:=isA_sig ha
  obtain ⟨e,g,rfl,h2⟩:=isA_one ha'
  subst hu hu'
  have:=lowest_calls t c d e g (β i) (β j) W h1 h2 hc hm
  rw [hr] at this
  refine this.mono fun x W' ⟨v,hx,hq,hb⟩=>?_
  obtain ⟨us,rfl,h3⟩:=isQ_five hq
  exact ⟨us,hx,h3,hb⟩
theorem en_whole {t:Bool} {i:Nat} (h0:t=true→β i≠0) (hr:((zs t (β i):Int):Rat)=r):(⟨52,[.c [.b t,.m i]],.c [.q]⟩:En).Ok T β r:=en_s fun c d W h1=>by
 obtain ⟨x,p,l,k,rfl,rfl⟩:=h1.shape
 refine (whole_calls t x p l k W).mono fun e W' ⟨he,hb⟩=>⟨_,he,⟨?_,trivial⟩,hb⟩
 rw [← hr]
 have ht:decide (zs t (β i)<0)=t:=by cases t <;> simp [zs] <;> (have:=h0 rfl;omega)
 have:=isQ_int (w:=W') (zs t (β i)) (c:=.int .u64 x) (d:=.slice p l k) (by rw [zs_natAbs];exact h1.below hb)
 rw [ht] at this
 exact this
theorem en_cmp {a b n:Int} (h:∀ W,Calls Tryz.prog 64 #[.int .i64 a,.int .i64 b] W fun e W'=>e=.returned (.int .i64 n)∧W=W'):(⟨64,[.i a,.i b],.i n⟩:En).Ok T β r:=by
 intro W vs hv hT
 match vs,hv with
 | [v,v'],⟨hu,hu',_⟩ =>
  subst hu hu'
  exact (h W).mono fun e W' ⟨h1,h2⟩=>⟨h1,by rw [← h2];exact Below.refl _ _⟩
end
end Rx
section
theorem coprime_parts {a b c d:Nat} (h:Nat.Coprime a b) (hc:c∣a) (hd:d∣b):Nat.Coprime c d:=
 Nat.Coprime.coprime_dvd_left hc (Nat.Coprime.coprime_dvd_right hd h)
theorem mul_parts (t1 t2:Bool) (n1 d1 n2 d2:Nat) (h1:Nat.Coprime n1 d1) (h2:Nat.Coprime n2 d2) (e1:d1≠0) (e2:d2≠0) :
  Nat.gcd n1 d2≠0∧Nat.gcd n2 d1≠0∧Nat.Coprime (n1 / Nat.gcd n1 d2*(n2 / Nat.gcd n2 d1)) (d1 / Nat.gcd n2 d1*(d2 / Nat.gcd n1 d2))∧d1 / Nat.gcd n2 d1*(d2 / Nat.gcd n1 d2)≠0 ∧
  mkRat (zs (t1 != t2) (n1 / Nat.gcd n1 d2*(n2 / Nat.gcd n2 d1))) (d1 / Nat.gcd n2 d1*(d2 / Nat.gcd n1 d2))=mkRat (zs t1 n1) d1*mkRat (zs t2 n2) d2:=by
 obtain ⟨g0,g1,g2⟩:=gcd_parts n1 d2 e2
 obtain ⟨h0,k1,k2⟩:=gcd_parts n2 d1 e1
 have ga:=Nat.gcd_dvd_left n1 d2
 have gb:=Nat.gcd_dvd_right n1 d2
 have ha:=Nat.gcd_dvd_left n2 d1
 have hb:=Nat.gcd_dvd_right n2 d1
 generalize Nat.gcd n1 d2=g at *
 generalize Nat.gcd n2 d1=h at *
 obtain ⟨x1,rfl⟩:=ga
 obtain ⟨y2,rfl⟩:=gb
 obtain ⟨x2,rfl⟩:=ha
 obtain ⟨y1,rfl⟩:=hb
 rw [Nat.mul_div_cancel_left _ (by omega),Nat.mul_div_cancel_left _ (by omega)] at *
 rw [Nat.mul_div_cancel_left _ (by omega),Nat.mul_div_cancel_left _ (by omega)] at *
 have c1:Nat.Coprime x1 y1:=coprime_parts h1 (Nat.dvd_mul_left _ _) (Nat.dvd_mul_left _ _)
 have c2:Nat.Coprime x2 y2:=coprime_parts h2 (Nat.dvd_mul_left _ _) (Nat.dvd_mul_left _ _)
 refine ⟨g0,h0,?_,Nat.mul_ne_zero k2 g2,?_⟩
 ·exact Nat.Coprime.mul_left (Nat.Coprime.mul_right c1 g1) (Nat.Coprime.mul_right k1 c2)
 ·rw [Rat.mkRat_mul_mkRat,zs_mul,Rat.mkRat_eq_iff (Nat.mul_ne_zero k2 g2) (Nat.mul_ne_zero e1 e2)]
  rw [show g*x1*(h*x2)=x1*x2*(g*h) by grind,zs_mul_nat (t1 != t2) (x1*x2) (g*h)]
  generalize zs (t1 != t2) (x1*x2)=z
  clear c1 c2 h1 h2 g1 k1
  push_cast
  grind
end
section
open Go.RowKit Go.Sort
attribute [local go_sem] takes takesUpon_value takesUpon_skip takesUpon_enter
def MagV (n:Nat) (v:Value) (W:World):Prop:=∃ x p l k,v=.agg #[.int .u64 x,.slice p l k]∧IsMag W (.int .u64 x) (.slice p l k) n
def one (f:Value→World→Prop):List Value→World→Prop
 | [v],W=>f v W
 | _,_=>False
theorem one_below {f:Value→World→Prop} (h:∀ v W W',Below W.heap.size W W'→f v W→f v W'):∀ vs W W',Below W.heap.size W W'→one f vs W→one f vs W'
 | [v],W,W',hb,hf=>h v W W' hb hf
 | [],_,_,_,hf=>hf
 | _ :: _ :: _,_,_,_,hf=>hf
theorem magV_below {n:Nat}:∀ v W W',Below W.heap.size W W'→MagV n v W→MagV n v W':=fun _ _ _ hb ⟨x,p,l,k,e,h⟩=>⟨x,p,l,k,e,h.below hb⟩
theorem is_below {c:Value}:∀ v W W',Below W.heap.size W W'→(fun v (_:World)=>v=c) v W→(fun v (_:World)=>v=c) v W':=fun _ _ _ _ h=>h
theorem isQ_below {r:Rat}:∀ v W W',Below W.heap.size W W'→(fun v W=>IsQ W v r) v W→(fun v W=>IsQ W v r) v W':=fun _ _ _ hb h=>h.below hb
end
section
open Go.RowKit Go.Sort
structure Q2St (w W:World) (t1:Bool) (c1 d1 e1 f1:Value) (t2:Bool) (c2 d2 e2 f2:Value) (n1 m1 n2 m2:Nat):Prop where
 b1:C5 W w.heap.size (.bool t1) c1 d1 e1 f1
 b2:C5 W (w.heap.size+1) (.bool t2) c2 d2 e2 f2
 rs:QSlot W (w.heap.size+1+1)
 i1:IsMag W c1 d1 n1
 j1:IsMag W e1 f1 m1
 i2:IsMag W c2 d2 n2
 j2:IsMag W e2 f2 m2
 bel:Below w.heap.size w W
 sz:w.heap.size+3≤W.heap.size
 tab0:Tab w
theorem Q2St.next {w W W':World} {t1 t2:Bool} {c1 d1 e1 f1 c2 d2 e2 f2:Value} {n1 m1 n2 m2:Nat} (h:Q2St w W t1 c1 d1 e1 f1 t2 c2 d2 e2 f2 n1 m1 n2 m2) (hb:Below W.heap.size W W') :
  Q2St w W' t1 c1 d1 e1 f1 t2 c2 d2 e2 f2 n1 m1 n2 m2 where
 b1:=C5.below h.b1 hb (by have:=h.sz;omega)
 b2:=C5.below h.b2 hb (by have:=h.sz;omega)
 rs:=h.rs.below hb (by have:=h.sz;omega)
 i1:=h.i1.below hb
 j1:=h.j1.below hb
 i2:=h.i2.below hb
 j2:=h.j2.below hb
 bel:=h.bel.trans (hb.mono h.bel.size)
 sz:=Nat.le_trans h.sz hb.size
 tab0:=h.tab0
theorem Q2St.tab {w W:World} {t1 t2:Bool} {c1 d1 e1 f1 c2 d2 e2 f2:Value} {n1 m1 n2 m2:Nat} (h:Q2St w W t1 c1 d1 e1 f1 t2 c2 d2 e2 f2 n1 m1 n2 m2):Tab W:=h.tab0.below h.bel (Nat.le_refl _)
theorem set2_far {W:World} {L:Nat} {u v:Value} (a:Addr) (ha:a.block≠L):(set2 W L u v).cell? a=W.cell? a:=by
 rw [World.cell?_setCell_far _ _ _ _ (Ne.symm ha),World.cell?_setCell_far _ _ _ _ (Ne.symm ha)]
theorem Q2St.set2 {w W:World} {t1 t2:Bool} {c1 d1 e1 f1 c2 d2 e2 f2 u v:Value} {n1 m1 n2 m2 L:Nat} (h:Q2St w W t1 c1 d1 e1 f1 t2 c2 d2 e2 f2 n1 m1 n2 m2) (hL:w.heap.size+3≤L) (hs:Slot W L) :
  Q2St w (set2 W L u v) t1 c1 d1 e1 f1 t2 c2 d2 e2 f2 n1 m1 n2 m2:=by
 obtain ⟨⟨a0,a1,a2,a3,a4⟩,⟨b0,b1,b2,b3,b4⟩,⟨⟨t,r0⟩,⟨x,r1⟩,⟨p,l,c,r2⟩,⟨y,r3⟩,⟨p',l',c',r4⟩,g0,g1,g2,g3,g4⟩,i1,j1,i2,j2,bel,sz,tab0⟩:=h
 refine ⟨⟨?_,?_,?_,?_,?_⟩,⟨?_,?_,?_,?_,?_⟩,⟨⟨t,?_⟩,⟨x,?_⟩,⟨p,l,c,?_⟩,⟨y,?_⟩,⟨p',l',c',?_⟩,?_,?_,?_,?_,?_⟩,hs.mag i1,hs.mag j1,hs.mag i2,hs.mag j2,(bel.setCell (by simp only;omega) _).setCell (by simp only;omega) _,by simpa using sz,tab0⟩
 all_goals first | (simp only [World.frozen?_setCell];assumption) | (rw [set2_far _ (by simp only;omega)];assumption)
structure Loc (w W:World) (L:Nat) (c d:Value) (n:Nat):Prop where
 cs:C2 W L c d
 im:IsMag W c d n
 lo:w.heap.size+3≤L
 hi:L<W.heap.size
theorem Loc.next {w W W':World} {L n:Nat} {c d:Value} (h:Loc w W L c d n) (hb:Below W.heap.size W W'):Loc w W' L c d n:=
 ⟨C2.below h.cs hb h.hi,h.im.below hb,h.lo,Nat.lt_of_lt_of_le h.hi hb.size⟩
theorem Loc.far {w W:World} {L L' n:Nat} {c d u v:Value} (h:Loc w W L c d n) (hs:Slot W L') (hne:L≠L'):Loc w (Go.Proofs.YtmijlcldmefggaaGreatDoor.set2 W L' u v) L c d n:=
 ⟨⟨by rw [set2_far _ hne];exact h.cs.1,by rw [set2_far _ hne];exact h.cs.2⟩,hs.mag h.im,h.lo,by simpa using h.hi⟩
theorem Loc.own {w W:World} {L n:Nat} {c d:Value} (hs:Slot W L) (hm:IsMag W c d n) (lo:w.heap.size+3≤L) (hi:L<W.heap.size):Loc w (Go.Proofs.YtmijlcldmefggaaGreatDoor.set2 W L c d) L c d n:=
 ⟨hs.read c d,hs.mag hm,lo,by simpa using hi⟩
theorem Q2St.start {w:World} (t1 t2:Bool) (c1 d1 e1 f1 c2 d2 e2 f2:Value) (n1 m1 n2 m2:Nat) (T1 T2 T3:TypeId) (i1:IsMag w c1 d1 n1) (j1:IsMag w e1 f1 m1) (i2:IsMag w c2 d2 n2) (j2:IsMag w e2 f2 m2) (hT:Tab w) :
  Q2St w (((w.alloc (.cells #[.bool t1,c1,d1,e1,f1] T1)).alloc (.cells #[.bool t2,c2,d2,e2,f2] T2)).alloc (.cells #[.bool false,.int .u64 0,.slice none 0 0,.int .u64 0,.slice none 0 0] T3)) t1 c1 d1 e1 f1 t2 c2 d2 e2 f2 n1 m1 n2 m2:=by
 have hb:=(((Below.refl w.heap.size w).alloc (Nat.le_refl _) (.cells #[.bool t1,c1,d1,e1,f1] T1)).alloc (by simp) (.cells #[.bool t2,c2,d2,e2,f2] T2)).alloc (by simp;omega) (.cells #[.bool false,.int .u64 0,.slice none 0 0,.int .u64 0,.slice none 0 0] T3)
 refine ⟨⟨?_,?_,?_,?_,?_⟩,⟨?_,?_,?_,?_,?_⟩,⟨⟨false,?_⟩,⟨0,?_⟩,⟨none,0,0,?_⟩,⟨0,?_⟩,⟨none,0,0,?_⟩,?_,?_,?_,?_,?_⟩,i1.below hb,j1.below hb,i2.below hb,j2.below hb,hb,by simp,hT⟩ <;> go_simp
end
section
theorem und_den (r:Rat):undN (denOf r)=r.den:=by
 unfold undN denOf
 by_cases h:r.den=1
 ·rw [if_pos h,if_pos rfl,h]
 ·rw [if_neg h,if_neg r.den_nz]
theorem rat_parts (r:Rat):mkRat (zs (decide (r.num<0)) r.num.natAbs) (undN (denOf r))=r:=by
 rw [zs_of,und_den,Rat.mkRat_self]
theorem sgn_num (r:Rat):sgn (decide (r.num<0)) r.num.natAbs=0↔r=0:=by
 unfold sgn
 constructor
 ·intro h
  by_cases h1:r.num<0
  ·simp [h1] at h
  ·rw [if_neg (by simpa using h1)] at h
   have h2:r.num.natAbs=0:=by
    by_cases h3:r.num.natAbs=0
    ·exact h3
    ·simp [h3] at h
   exact Rat.num_eq_zero.1 (show r.num=0 by omega)
 ·intro h
  subst h
  rfl
namespace Rx
open Go.RowKit
def bt (L:List Nat):Nat→Nat:=fun n=>L.getD n 0
def em (L:List Nv):Env:=fun n=>L.getD n default
abbrev nC (t:Bool) (s s':Nat):SV:=.e (.a [.bl t,.ou s,.os s,.ou s',.os s'])
abbrev nN (t:Bool) (i j:Nat):Pt:=.c [.b t,.m i,.m j]
theorem no_ls {β:Nat→Nat}:∀ p∈([]:List (Nat×Nat)),β p.1=p.2∧p.2<B64:=fun p h=>by cases h
section
variable {β:Nat→Nat} {r:Rat} {t1 t2:Bool} {x1 y1 x2 y2:Int} {p1 r1 p2 r2:Option Addr} {l1 q1 s1 v1 l2 q2 s2 v2:Nat} {w:World}
theorem two_mags {f:FuncId} {R:Ending→World→Prop} (i1:IsMag w (.int .u64 x1) (.slice p1 l1 q1) (β 0)) (j1:IsMag w (.int .u64 y1) (.slice r1 s1 v1) (β 1)) (i2:IsMag w (.int .u64 x2) (.slice p2 l2 q2) (β 2)) (j2:IsMag w (.int .u64 y2) (.slice r2 s2 v2) (β 3))
  (go:∀ ρ:Env,(∀ g∈[Fm.m 0 0,.m 1 1,.m 2 2,.m 3 3],Fm.on β r ρ g w)→Calls Tryz.prog f ([nC t1 0 1,nC t2 2 3].map (SV.den ρ)).toArray w R):Calls Tryz.prog f #[.agg #[.bool t1,.int .u64 x1,.slice p1 l1 q1,.int .u64 y1,.slice r1 s1 v1],.agg #[.bool t2,.int .u64 x2,.slice p2 l2 q2,.int .u64 y2,.slice r2 s2 v2]] w R:=by
 refine go (em [⟨false,x1,p1,l1,q1,.empty,0,default⟩,⟨false,y1,r1,s1,v1,.empty,0,default⟩,⟨false,x2,p2,l2,q2,.empty,0,default⟩,⟨false,y2,r2,s2,v2,.empty,0,default⟩]) fun g hg=>?_
 simp only [List.mem_cons,List.not_mem_nil,or_false] at hg
 rcases hg with rfl | rfl | rfl | rfl
 ·exact i1
 ·exact j1
 ·exact i2
 ·exact j2
abbrev f4:List Fm:=[.m 0 0,.m 1 1,.m 2 2,.m 3 3]
def eS (t:Bool) (i j:Nat) (n:Int):En:=⟨7,[nN t i j],.i n⟩
def eU (t:Bool) (i j k:Nat):En:=⟨55,[nN t i j],.c [.m k]⟩
def eG (i j k:Nat):En:=⟨56,[.c [.m i],.c [.m j]],.c [.m k]⟩
def eO (i j k:Nat):En:=⟨57,[.c [.m i],.c [.m j]],.c [.m k]⟩
def eT (i j k:Nat):En:=⟨58,[.c [.m i],.c [.m j]],.c [.m k]⟩
def eL (t:Bool) (i j:Nat):En:=⟨59,[.c [.b t,.m i],.c [.m j]],.c [.q]⟩
theorem eS_ok {T:World→Prop} {t:Bool} {i j:Nat} {n:Int} (h:sgn t (β i)=n):(eS t i j n).Ok T β r:=en_sign h
theorem eU_ok {T:World→Prop} {t:Bool} {i j k:Nat} (h:undN (β j)=β k):(eU t i j k).Ok T β r:=en_under h
theorem eG_ok {i j k K:Nat} (h:Nat.gcd (β i) (β j)=β k) (hK:K≤68719476736) (h1:β i<B64 ^ K) (h2:β j<B64 ^ K):(eG i j k).Ok Tab β r:=en_mm fun c d e g W a b hT=>h ▸ mgcd_calls _ _ K c d e g W a b hK h1 h2 hT
theorem eO_ok {T:World→Prop} {i j k K:Nat} (h:β i / β j=β k) (h0:β j≠0) (hK:K≤137438953472) (h1:β i<B64 ^ K):(eO i j k).Ok T β r:=en_mm fun c d e g W a b _=>h ▸ mover_calls _ _ K c d e g W a b (Nat.pos_of_ne_zero h0) hK h1
theorem eT_ok {T:World→Prop} {i j k K:Nat} (h:β i*β j=β k) (hK:K≤68719476736) (h1:β i<B64 ^ K) (h2:β j<B64 ^ K):(eT i j k).Ok T β r:=en_mm fun c d e g W a b _=>h ▸ mtimes_calls _ _ K c d e g W a b hK h1 h2
theorem eL_ok {T:World→Prop} {t:Bool} {i j:Nat} (hc:Nat.Coprime (β i) (β j)) (hm:β j≠0) (hr:mkRat (zs t (β i)) (β j)=r):(eL t i j).Ok T β r:=en_lowest hc hm hr
def sg (t:Bool):Int:=if t then -1 else 1
theorem sgn_sg {t:Bool} {n:Nat} (h:sgn t n≠0):sgn t n=sg t:=by
 cases t
 ·unfold sgn at *
  rw [if_neg (by decide)] at *
  split
  ·rename_i h2;rw [if_pos h2] at h;exact absurd rfl h
  ·rfl
 ·rfl
def mulT (t1 t2:Bool):List En:=[eS t1 0 1 (sg t1),eS t2 2 3 (sg t2),eU t1 0 1 4,eU t2 2 3 5,eG 0 5 6,eG 2 4 7,eO 0 6 8,eO 2 7 9,eT 8 9 10,eO 4 7 11,eO 5 6 12,eT 11 12 13,eL (t1 != t2) 10 13]
theorem mul_run0 (β:Nat→Nat) (r:Rat) (t1 t2:Bool):isW true (runF Tryz.prog (SM β r) (HM β r) ([eS t1 0 1 0].map (conE β r [])) 1 19 [nC t1 0 1,nC t2 2 3] f4 4)=true:=by cases t1 <;> kernel_rfl
theorem mul_run1 (β:Nat→Nat) (r:Rat) (t1 t2:Bool):isW true (runF Tryz.prog (SM β r) (HM β r) ([eS t1 0 1 (sg t1),eS t2 2 3 0].map (conE β r [])) 1 19 [nC t1 0 1,nC t2 2 3] f4 4)=true:=by
 cases t1 <;> cases t2 <;> kernel_rfl
theorem mul_run2 (β:Nat→Nat) (r:Rat) (t1 t2:Bool):isW false (runF Tryz.prog (SM β r) (HM β r) ((mulT t1 t2).map (conE β r [])) 1 19 [nC t1 0 1,nC t2 2 3] f4 4)=true:=by
 cases t1 <;> cases t2 <;> kernel_rfl
end
end Rx
theorem mul_zero1 (t1 t2:Bool) (x1 y1 x2 y2:Int) (p1 r1 p2 r2:Option Addr) (l1 q1 s1 v1 l2 q2 s2 v2 n1 m1 n2 m2:Nat) (w:World)
  (i1:IsMag w (.int .u64 x1) (.slice p1 l1 q1) n1) (j1:IsMag w (.int .u64 y1) (.slice r1 s1 v1) m1) (i2:IsMag w (.int .u64 x2) (.slice p2 l2 q2) n2) (j2:IsMag w (.int .u64 y2) (.slice r2 s2 v2) m2) (hT:Tab w) (h1:sgn t1 n1=0) :
  Calls Tryz.prog 19 #[.agg #[.bool t1,.int .u64 x1,.slice p1 l1 q1,.int .u64 y1,.slice r1 s1 v1],.agg #[.bool t2,.int .u64 x2,.slice p2 l2 q2,.int .u64 y2,.slice r2 s2 v2]] w (RetQ w 0):=
 Rx.two_mags (β:=Rx.bt [n1,m1,n2,m2]) i1 j1 i2 j2 fun _ hg=>Rx.run_w Rx.no_ls (fun e he=>by
  obtain rfl:=List.mem_singleton.1 he
  exact Rx.eS_ok h1) (Rx.mul_run0 _ _ _ _) (fun _=>rfl) (Rx.tab_below hT) hg
theorem mul_zero2 (t1 t2:Bool) (x1 y1 x2 y2:Int) (p1 r1 p2 r2:Option Addr) (l1 q1 s1 v1 l2 q2 s2 v2 n1 m1 n2 m2:Nat) (w:World)
  (i1:IsMag w (.int .u64 x1) (.slice p1 l1 q1) n1) (j1:IsMag w (.int .u64 y1) (.slice r1 s1 v1) m1) (i2:IsMag w (.int .u64 x2) (.slice p2 l2 q2) n2) (j2:IsMag w (.int .u64 y2) (.slice r2 s2 v2) m2) (hT:Tab w) (h1:sgn t1 n1≠0) (h2:sgn t2 n2=0) :
  Calls Tryz.prog 19 #[.agg #[.bool t1,.int .u64 x1,.slice p1 l1 q1,.int .u64 y1,.slice r1 s1 v1],.agg #[.bool t2,.int .u64 x2,.slice p2 l2 q2,.int .u64 y2,.slice r2 s2 v2]] w (RetQ w 0):=
 Rx.two_mags (β:=Rx.bt [n1,m1,n2,m2]) i1 j1 i2 j2 fun _ hg=>Rx.run_w Rx.no_ls (fun e he=>by
  simp only [List.mem_cons,List.not_mem_nil,or_false] at he
  rcases he with rfl | rfl
  ·exact Rx.eS_ok (Rx.sgn_sg h1)
  ·exact Rx.eS_ok h2) (Rx.mul_run1 _ _ _ _) (fun _=>rfl) (Rx.tab_below hT) hg
theorem mul_main (t1 t2:Bool) (x1 y1 x2 y2:Int) (p1 r1 p2 r2:Option Addr) (l1 q1 s1 v1 l2 q2 s2 v2 n1 m1 n2 m2 k:Nat) (w:World)
  (i1:IsMag w (.int .u64 x1) (.slice p1 l1 q1) n1) (j1:IsMag w (.int .u64 y1) (.slice r1 s1 v1) m1) (i2:IsMag w (.int .u64 x2) (.slice p2 l2 q2) n2) (j2:IsMag w (.int .u64 y2) (.slice r2 s2 v2) m2) (hT:Tab w) (h1:sgn t1 n1≠0) (h2:sgn t2 n2≠0) (o1:Nat.Coprime n1 (undN m1)) (o2:Nat.Coprime n2 (undN m2)) (hk:k≤34359738368) (k1:n1<B64 ^ k) (k2:undN m1<B64 ^ k) (k3:n2<B64 ^ k) (k4:undN m2<B64 ^ k) (e1:undN m1≠0) (e2:undN m2≠0) :
  Calls Tryz.prog 19 #[.agg #[.bool t1,.int .u64 x1,.slice p1 l1 q1,.int .u64 y1,.slice r1 s1 v1],.agg #[.bool t2,.int .u64 x2,.slice p2 l2 q2,.int .u64 y2,.slice r2 s2 v2]] w (RetQ w (mkRat (zs t1 n1) (undN m1)*mkRat (zs t2 n2) (undN m2))):=by
 obtain ⟨P1,P2,P3,P4,P5⟩:=mul_parts t1 t2 n1 (undN m1) n2 (undN m2) o1 o2 e1 e2
 refine Rx.two_mags (β:=Rx.bt [n1,m1,n2,m2,undN m1,undN m2,Nat.gcd n1 (undN m2),Nat.gcd n2 (undN m1),n1 / Nat.gcd n1 (undN m2),n2 / Nat.gcd n2 (undN m1),n1 / Nat.gcd n1 (undN m2)*(n2 / Nat.gcd n2 (undN m1)),undN m1 / Nat.gcd n2 (undN m1),undN m2 / Nat.gcd n1 (undN m2),undN m1 / Nat.gcd n2 (undN m1)*(undN m2 / Nat.gcd n1 (undN m2))]) i1 j1 i2 j2 fun _ hg=>Rx.run_w Rx.no_ls (fun e he=>?_) (Rx.mul_run2 _ _ _ _) (fun h=>by cases h) (Rx.tab_below hT) hg
 have lt:∀ {a b:Nat},a<B64 ^ k→a / b<B64 ^ k:=fun h=>Nat.lt_of_le_of_lt (Nat.div_le_self _ _) h
 simp only [Rx.mulT,List.mem_cons,List.not_mem_nil,or_false] at he
 rcases he with rfl | rfl | rfl | rfl | rfl | rfl | rfl | rfl | rfl | rfl | rfl | rfl | rfl
 ·exact Rx.eS_ok (Rx.sgn_sg h1)
 ·exact Rx.eS_ok (Rx.sgn_sg h2)
 ·exact Rx.eU_ok rfl
 ·exact Rx.eU_ok rfl
 ·exact Rx.eG_ok (K:=k) rfl (by omega) k1 k4
 ·exact Rx.eG_ok (K:=k) rfl (by omega) k3 k2
 ·exact Rx.eO_ok (K:=k) rfl P1 (by omega) k1
 ·exact Rx.eO_ok (K:=k) rfl P2 (by omega) k3
 ·exact Rx.eT_ok (K:=k) rfl (by omega) (lt k1) (lt k3)
 ·exact Rx.eO_ok (K:=k) rfl P2 (by omega) k2
 ·exact Rx.eO_ok (K:=k) rfl P1 (by omega) k4
 ·exact Rx.eT_ok (K:=k) rfl (by omega) (lt k2) (lt k4)
 ·exact Rx.eL_ok P3 P4 P5
theorem Mul_calls (r s:Rat) (v1 v2:Value) (k:Nat) (w:World) (h1:IsQ w v1 r) (h2:IsQ w v2 s) (hk:k≤34359738368) (f1:Fits k r) (f2:Fits k s) (hT:Tab w) :
  Calls Tryz.prog 19 #[v1,v2] w (RetQ w (r*s)):=by
 obtain ⟨t1,x1,p1,l1,q1,y1,r1,s1,u1,rfl,i1,j1,e1⟩:=h1.shape
 obtain ⟨t2,x2,p2,l2,q2,y2,r2,s2,u2,rfl,i2,j2,e2⟩:=h2.shape
 have e1':=e1.out
 have e2':=e2.out
 by_cases z1:r=0
 ·have:=mul_zero1 t1 t2 x1 y1 x2 y2 p1 r1 p2 r2 l1 q1 s1 u1 l2 q2 s2 u2 _ _ _ _ w i1 j1 i2 j2 hT (by rw [e1'];exact (sgn_num r).2 z1)
  rw [z1,Rat.zero_mul]
  exact this
 have n1:sgn t1 r.num.natAbs≠0:=by rw [e1'];exact fun h=>z1 ((sgn_num r).1 h)
 by_cases z2:s=0
 ·have:=mul_zero2 t1 t2 x1 y1 x2 y2 p1 r1 p2 r2 l1 q1 s1 u1 l2 q2 s2 u2 _ _ _ _ w i1 j1 i2 j2 hT n1 (by rw [e2'];exact (sgn_num s).2 z2)
  rw [z2,Rat.mul_zero]
  exact this
 have n2:sgn t2 s.num.natAbs≠0:=by rw [e2'];exact fun h=>z2 ((sgn_num s).1 h)
 have:=mul_main t1 t2 x1 y1 x2 y2 p1 r1 p2 r2 l1 q1 s1 u1 l2 q2 s2 u2 _ _ _ _ k w i1 j1 i2 j2 hT n1 n2 (by rw [und_den];exact r.reduced) (by rw [und_den];exact s.reduced) hk f1.1 (by rw [und_den];exact f1.2) f2.1 (by rw [und_den];exact f2.2) (by rw [und_den];exact r.den_nz) (by rw [und_den];exact s.den_nz)
 rw [e1',e2',rat_parts,rat_parts] at this
 rw [e1',e2']
 exact this
end
section
open Go.RowKit Go.Sort
def RetS (w:World) (b:Bool) (n:Nat) (e:Ending) (w':World):Prop:=∃ x p l q,e=.returned (.agg #[.bool b,.int .u64 x,.slice p l q])∧IsMag w' (.int .u64 x) (.slice p l q) n∧Below w.heap.size w w'
def sumB (t1:Bool) (n1:Nat) (t2:Bool) (n2:Nat):Bool:=if t1=t2 then t1 else if n1=n2 then false else if n2<n1 then t1 else t2
def sumN (t1:Bool) (n1:Nat) (t2:Bool) (n2:Nat):Nat:=if t1=t2 then n1+n2 else n1 - n2+(n2 - n1)
theorem sum_spec (t1 t2:Bool) (n1 n2:Nat):zs (sumB t1 n1 t2 n2) (sumN t1 n1 t2 n2)=zs t1 n1+zs t2 n2∧sumN t1 n1 t2 n2≤n1+n2∧((t1=true→n1≠0)→(t2=true→n2≠0)→sumB t1 n1 t2 n2=true→sumN t1 n1 t2 n2≠0):=by
 unfold sumB sumN
 by_cases h1:n1=n2
 ·cases t1 <;> cases t2 <;> simp [zs,h1] <;> omega
 ·by_cases h2:n2<n1
  ·cases t1 <;> cases t2 <;> simp [zs,h1,h2] <;> omega
  ·cases t1 <;> cases t2 <;> simp [zs,h1,h2] <;> omega
namespace Rx
def eP (i j k:Nat):En:=⟨99,[.c [.m i],.c [.m j]],.c [.m k]⟩
def eM (i j k:Nat):En:=⟨100,[.c [.m i],.c [.m j]],.c [.m k]⟩
def eC (i j:Nat) (n:Int):En:=⟨65,[.c [.m i],.c [.m j]],.i n⟩
abbrev sC (t:Bool) (s:Nat):SV:=.e (.a [.bl t,.ou s,.os s])
section
variable {β:Nat→Nat} {r:Rat}
theorem eP_ok {T:World→Prop} {i j k K:Nat} (h:β i+β j=β k) (hK:K≤137438953472) (h1:β i<B64 ^ K) (h2:β j<B64 ^ K):(eP i j k).Ok T β r:=en_mm fun c d e g W a b _=>h ▸ mplus_calls _ _ K c d e g W a b hK h1 h2
theorem eM_ok {T:World→Prop} {i j k K:Nat} (h:β i - β j=β k) (hl:β j≤β i) (hK:K≤137438953472) (h1:β i<B64 ^ K):(eM i j k).Ok T β r:=en_mm fun c d e g W a b _=>h ▸ mminus_calls _ _ K c d e g W a b hl hK h1
theorem eC_ok {T:World→Prop} {i j K:Nat} {n:Int} (h:cmpN (β i) (β j)=n) (hK:K≤274877906944) (h1:β i<B64 ^ K):(eC i j n).Ok T β r:=en_mi fun c d e g W a b=>h ▸ mcmp_calls _ _ K c d e g W a b hK h1
theorem adds_run (β:Nat→Nat) (r:Rat) (t:Bool) :
  isSM t 2 [] (runF Tryz.prog (SM β r) (HM β r) ([eP 0 1 2].map (conE β r [])) 1 54 [sC t 0,sC t 1] [.m 0 0,.m 1 1] 2)=true ∧
  isSM t 2 [] (runF Tryz.prog (SM β r) (HM β r) ([eC 0 1 1,eM 0 1 2].map (conE β r [])) 1 54 [sC t 0,sC (!t) 1] [.m 0 0,.m 1 1] 2)=true ∧
  isSM (!t) 2 [] (runF Tryz.prog (SM β r) (HM β r) ([eC 0 1 (-1),eM 1 0 2].map (conE β r [])) 1 54 [sC t 0,sC (!t) 1] [.m 0 0,.m 1 1] 2)=true ∧
  isSM false 2 [(2,0)] (runF Tryz.prog (SM β r) (HM β r) ([eC 0 1 0].map (conE β r [(2,0)])) 1 54 [sC t 0,sC (!t) 1] [.m 0 0,.m 1 1] 2)=true:=by
 cases t <;> exact ⟨by kernel_rfl,by kernel_rfl,by kernel_rfl,by kernel_rfl⟩
end
end Rx
theorem adds_calls (t1 t2:Bool) (c1 d1 c2 d2:Value) (n1 n2 k:Nat) (w:World) (i1:IsMag w c1 d1 n1) (i2:IsMag w c2 d2 n2) (hk:k≤137438953472) (k1:n1<B64 ^ k) (k2:n2<B64 ^ k) :
  Calls Tryz.prog 54 #[.agg #[.bool t1,c1,d1],.agg #[.bool t2,c2,d2]] w (RetS w (sumB t1 n1 t2 n2) (sumN t1 n1 t2 n2)):=by
 obtain ⟨x1,p1,l1,q1,rfl,rfl⟩:=i1.shape
 obtain ⟨x2,p2,l2,q2,rfl,rfl⟩:=i2.shape
 obtain ⟨ρ,hρ⟩:∃ ρ,ρ=Rx.em [⟨false,x1,p1,l1,q1,.empty,0,default⟩,⟨false,x2,p2,l2,q2,.empty,0,default⟩]:=⟨_,rfl⟩
 have hf:∀ m:Nat,∀ g∈[Rx.Fm.m 0 0,.m 1 1],Rx.Fm.on (Rx.bt [n1,n2,m]) 0 ρ g w:=fun m g hg=>by
  simp only [List.mem_cons,List.not_mem_nil,or_false] at hg
  rw [hρ]
  rcases hg with rfl | rfl
  ·exact i1
  ·exact i2
 have ret:∀ {s:Bool} {m:Nat} {e:Ending} {W:World},(∃ c d,e=.returned (.agg #[.bool s,c,d])∧IsMag W c d m∧Below w.heap.size w W)→RetS w s m e W:=fun ⟨c,d,he,hm,hb⟩=>by
  obtain ⟨x,p,l,q,rfl,rfl⟩:=hm.shape
  exact ⟨x,p,l,q,he,hm,hb⟩
 have he:∀ a b:Bool,([Rx.sC a 0,Rx.sC b 1].map (Rx.SV.den ρ)).toArray=#[.agg #[.bool a,.int .u64 x1,.slice p1 l1 q1],.agg #[.bool b,.int .u64 x2,.slice p2 l2 q2]]:=fun a b=>by rw [hρ];rfl
 unfold sumB sumN
 by_cases h:t1=t2
 ·subst h
  rw [if_pos rfl,if_pos rfl,← he]
  exact (Rx.run_sm (T:=fun _=>True) (β:=Rx.bt [n1,n2,n1+n2]) (r:=0) Rx.no_ls (fun e he=>by
   obtain rfl:=List.mem_singleton.1 he
   exact Rx.eP_ok (K:=k) rfl hk k1 k2) (Rx.adds_run _ _ t1).1 (fun _ _=>trivial) (hf _)).mono fun _ _=>ret
 ·obtain rfl:t2 = !t1:=by cases t1 <;> cases t2 <;> simp_all
  rw [if_neg h,if_neg h,← he]
  rcases Nat.lt_trichotomy n1 n2 with h1 | h1 | h1
  ·rw [if_neg (by omega),if_neg (by omega),show n1 - n2+(n2 - n1)=n2 - n1 by omega]
   exact (Rx.run_sm (T:=fun _=>True) (β:=Rx.bt [n1,n2,n2 - n1]) (r:=0) Rx.no_ls (fun e he=>by
    simp only [List.mem_cons,List.not_mem_nil,or_false] at he
    rcases he with rfl | rfl
    ·exact Rx.eC_ok (K:=k) (by show cmpN n1 n2 = -1;unfold cmpN;rw [if_pos h1]) (by omega) k1
    ·exact Rx.eM_ok (K:=k) rfl (Nat.le_of_lt h1) hk k2) (Rx.adds_run _ _ t1).2.2.1 (fun _ _=>trivial) (hf _)).mono fun _ _=>ret
  ·rw [if_pos h1,show n1 - n2+(n2 - n1)=0 by omega]
   exact (Rx.run_sm (T:=fun _=>True) (β:=Rx.bt [n1,n2,0]) (r:=0) (fun p hp=>by obtain rfl:=List.mem_singleton.1 hp;exact ⟨rfl,by decide⟩) (fun e he=>by
    obtain rfl:=List.mem_singleton.1 he
    exact Rx.eC_ok (K:=k) (by show cmpN n1 n2=0;unfold cmpN;rw [if_neg (by omega),if_pos h1]) (by omega) k1) (Rx.adds_run _ _ t1).2.2.2 (fun _ _=>trivial) (hf _)).mono fun _ _=>ret
  ·rw [if_neg (by omega),if_pos h1,show n1 - n2+(n2 - n1)=n1 - n2 by omega]
   exact (Rx.run_sm (T:=fun _=>True) (β:=Rx.bt [n1,n2,n1 - n2]) (r:=0) Rx.no_ls (fun e he=>by
    simp only [List.mem_cons,List.not_mem_nil,or_false] at he
    rcases he with rfl | rfl
    ·exact Rx.eC_ok (K:=k) (by show cmpN n1 n2=1;unfold cmpN;rw [if_neg (by omega),if_neg (by omega)]) (by omega) k1
    ·exact Rx.eM_ok (K:=k) rfl (Nat.le_of_lt h1) hk k1) (Rx.adds_run _ _ t1).2.1 (fun _ _=>trivial) (hf _)).mono fun _ _=>ret
end
end Go.Proofs.YtmijlcldmefggaaGreatDoor
