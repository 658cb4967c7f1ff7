/- What the proof rests on, part 15. -/
import Derived.Test.YtefbfbdijimanaaGreatDoorP14
import Derived.Test.YtefbfbdijimanaaGreatDoorP11
import Derived.Test.YtefbfbdijimanaaGreatDoorP06
namespace Go.Proofs.YtefbfbdijimanaaGreatDoor
set_option maxRecDepth 100000
set_option maxHeartbeats 80000000
namespace Rx
open Go.RowKit
section
variable (P:Program) (S:Sys) (H:Tests S) (cons:List (Con S))
def zN (σ:State S):ResultVar→Option El
 | .tmp t=>match σ.regs.getD t .und with
  | .e x=>some x
  | _=>none
 | .cell t ty=>match σ.regs.getD t .und with
  | .e (.s (.ptr k off))=>match lk σ.bx k,jd P ty,fP P ty with
   | some (_,cs),some true,some n=>if off+n≤cs.length then some (.a ((cs.drop off).take n)) else none
   | some (_,cs),some false,_=>match cs[off]? with
    | some c=>some (.s c)
    | none=>none
   | _,_,_=>none
  | _=>none
def nR (σ:State S):List ResultVar→Option (List El)
 | []=>some []
 | r :: rs=>match zN P S σ r,nR σ rs with
  | some x,some l=>some (x :: l)
  | _,_=>none
def nP:List El→SV
 | [x]=>.e x
 | l=>.t l
def DV (args:List SV) (fs:List S.F) (b:Nat):Bool:=args.all (fun v=>v.nm.all (· < b)) && fs.all fun f=>(S.nm f).all (· < b)
def aT (fuel:Nat) (f:FuncId) (args:List SV) (fs:List S.F) (b:Nat):Option (SV×List S.F):=
 match P.funcs[f]? with
 | some fn=>match fn.body with
  | some c=>if DV S args fs b then
   match exec P S H cons fuel c ⟨args ++ List.replicate (fn.ntmps - args.length) .und,[],fs,b⟩ with
   | some (.exit _,_)=>none
   | some (_,σ)=>match nR P S σ fn.results.toList with
    | some l=>some (nP l,σ.fs)
    | none=>none
   | none=>none
   else none
  | none=>none
 | none=>none
def vU (fuel:Nat) (f:FuncId) (args:List SV) (fs:List S.F) (b:Nat):Option (SV×List S.F×List (Nat×TypeId×List Cell)):=
 match P.funcs[f]? with
 | some fn=>match fn.body with
  | some c=>if DV S args fs b then
   match exec P S H cons fuel c ⟨args ++ List.replicate (fn.ntmps - args.length) .und,[],fs,b⟩ with
   | some (.exit _,_)=>none
   | some (_,σ)=>match nR P S σ fn.results.toList with
    | some l=>some (nP l,σ.fs,σ.bx)
    | none=>none
   | none=>none
   else none
  | none=>none
 | none=>none
end
section
variable {P:Program} {S:Sys} {H:Tests S} {cons:List (Con S)}
def vP (tmps:Array Value):ResultVar→Sem Value
 | .tmp t=>pure (tmps.getD t undef)
 | .cell t ty=>do loadVar ty (← asAddr (tmps.getD t undef))
theorem XU (fn:Func) (tmps:Array Value):results fn tmps=(do
  let vs ← fn.results.mapM (vP tmps)
  pure (if h:vs.size=1 then vs[0] else .tuple vs)):=by
 unfold results
 congr 1
theorem XR {σ:State S} {r:ResultVar} {x:El} (h:zN P S σ r=some x) {w0 W:World} {ρ:Env} {a:Act} (hs:σ.Says w0 ρ a W) :
  (vP a.tmps r).run P W=.ok (x.den ρ) W:=by
 cases r with
 | tmp t =>
  simp only [zN] at h
  split at h
  ·rename_i y hy
   cases h
   simp only [vP]
   rw [hs.rg t,hy]
   rfl
  ·cases h
 | cell t ty =>
  simp only [zN] at h
  split at h
  ·rename_i k off hy
   simp only [vP]
   rw [hs.rg t,hy]
   have hl:∀ v,(Instr.loadAt ty (.pointer (some ⟨(ρ k).pos,off,none⟩))).run P W=.ok v W→(do loadVar ty (← asAddr (SV.den ρ (.e (.s (.ptr k off)))) ):Sem Value).run P W=.ok v W:=fun v hv=>hv
   split at h
   ·rename_i T cs n hk hag hsz
    split at h
    ·rename_i hle
     cases h
     rw [hl _ (KY hag hsz (hs.bx k T cs hk).2 (by simpa using hle))]
     simp [El.den,List.map_drop,List.map_take]
    ·cases h
   ·rename_i T cs hk hag
    split at h
    ·rename_i c hc
     cases h
     have hv':(cs.map (Cell.den ρ))[off]? = some (c.den ρ):=by simp [hc]
     rw [hl _ (KZ hag (hs.bx k T cs hk).2 hv')]
     rfl
    ·cases h
   ·cases h
  ·cases h
theorem Kt {σ:State S} {w0 W:World} {ρ:Env} {a:Act} (hs:σ.Says w0 ρ a W):∀ {rs:List ResultVar} {l:List El},nR P S σ rs=some l →
  (rs.mapM (vP a.tmps)).run P W=.ok (l.map (El.den ρ)) W
 | [],l,h=>by simp only [nR,Option.some.injEq] at h;subst h;rfl
 | r :: rs,l,h=>by
  simp only [nR] at h
  split at h
  ·rename_i x l' h1 h2
   cases h
   have h3:=XR h1 hs
   have h4:=Kt hs h2
   rw [List.mapM_cons]
   simp only [Sem.run_bind]
   rw [h3]
   simp only [Result.andThen]
   rw [h4]
   rfl
  ·cases h
theorem XV {σ:State S} {w0 W:World} {ρ:Env} {a:Act} {fn:Func} {l:List El} (hs:σ.Says w0 ρ a W) (h:nR P S σ fn.results.toList=some l):(results fn a.tmps).run P W=.ok ((nP l).den ρ) W:=by
 rw [XU,Array.mapM_eq_mapM_toList]
 simp only [Sem.run_bind,map_eq_pure_bind]
 have:=Kt hs h
 rw [this]
 simp only [Result.andThen]
 cases l with
 | nil=>rfl
 | cons x r =>
  cases r with
  | nil=>rfl
  | cons y r=>rfl
theorem KP {E:World→Prop} (hm:P.follows .mixedOrders=true) (hcons:∀ c∈cons,c.Ok P S E) {fuel:Nat} {f:FuncId} {args:List SV} {fs:List S.F} {b:Nat} {v:SV} {fs':List S.F} {bx:List (Nat×TypeId×List Cell)} (h:vU P S H cons fuel f args fs b=some (v,fs',bx))
  {ρ:Env} {w:World} (hE:∀ W,Below w.heap.size w W→E W) (hf:∀ f∈fs,S.on ρ f w) (hlo:S.lo≤w.heap.size:=by exact Nat.zero_le _) :
  Calls P f (args.map (SV.den ρ)).toArray w fun e W'=>∃ ρ':Env,(∀ n,n<b→ρ' n=ρ n)∧e=.returned (v.den ρ')∧Below w.heap.size w W'∧(∀ f∈fs',S.on ρ' f W')∧∀ k T cs,lk bx k=some (T,cs)→w.heap.size≤(ρ' k).pos∧Go.Proofs.YtefbfbdijimanaaGreatDoor.Rx.Bx W' (ρ' k).pos T (cs.map (Cell.den ρ')):=by
 unfold vU at h
 split at h
 ·rename_i fn hfn
  split at h
  ·rename_i c hc
   split at h
   ·rename_i hok
    have hwf:Wf (S:=S) ⟨args ++ List.replicate (fn.ntmps - args.length) .und,[],fs,b⟩:=by
     unfold DV at hok
     simp only [Bool.and_eq_true,List.all_eq_true,decide_eq_true_eq] at hok
     refine ⟨fun t n hn=>?_,fun k T cs h=>by simp [lk] at h,fun f hf n hn=>hok.2 f hf n hn⟩
     simp only [List.getD] at hn
     rcases Nat.lt_or_ge t args.length with ht | ht
     ·rw [List.getElem?_append_left ht,List.getElem?_eq_getElem ht,Option.getD_some] at hn
      exact hok.1 _ (List.getElem_mem ht) n hn
     ·rw [List.getElem?_append_right ht] at hn
      cases hg:(List.replicate (fn.ntmps - args.length) SV.und)[t - args.length]? with
      | none=>rw [hg] at hn;simp [SV.nm] at hn
      | some x =>
       rw [hg,Option.getD_some] at hn
       have:=List.eq_of_mem_replicate (List.mem_of_getElem? hg)
       subst this
       simp [SV.nm] at hn
    have hsays:State.Says (S:=S) ⟨args ++ List.replicate (fn.ntmps - args.length) .und,[],fs,b⟩ w ρ { tmps:=(args.map (SV.den ρ)).toArray ++ Array.replicate (fn.ntmps - (args.map (SV.den ρ)).toArray.size) undef,defers:=[] } w:=by
     refine ⟨by simp,rfl,fun t=>?_,Below.refl _ _,fun k T cs h=>by simp [lk] at h,fun k k' x x' h=>by simp [lk] at h,hf⟩
     simp only [List.getD,Array.getD_eq_getD_getElem?,Array.getElem?_append,List.getElem?_toArray,List.getElem?_append,List.getElem?_map,List.size_toArray,List.length_map,Array.getElem?_replicate,List.getElem?_replicate]
     split
     ·rename_i ht
      simp [List.getElem?_eq_getElem ht]
     ·split <;> rfl
    have hfin:∀ x σ l,exec P S H cons fuel c ⟨args ++ List.replicate (fn.ntmps - args.length) .und,[],fs,b⟩=some (x,σ)→(x=.normal∨x=.ret)→nR P S σ fn.results.toList=some l→nP l=v→σ.fs=fs'→σ.bx=bx →
      Calls P f (args.map (SV.den ρ)).toArray w fun e W'=>∃ ρ':Env,(∀ n,n<b→ρ' n=ρ n)∧e=.returned (v.den ρ')∧Below w.heap.size w W'∧(∀ f∈fs',S.on ρ' f W')∧∀ k T cs,lk bx k=some (T,cs)→w.heap.size≤(ρ' k).pos∧Go.Proofs.YtefbfbdijimanaaGreatDoor.Rx.Bx W' (ρ' k).pos T (cs.map (Cell.den ρ')):=fun x σ l hx hxn hres hpk hfs hbx=>by
     obtain ⟨-,-,go⟩:=Ru hlo hm hcons hE c _ _ _ hx hwf
     refine calls_of_wp hfn hc (go ρ _ w _ hsays fun ρ' a' W' hl hs=>?_)
     have hr:=XV hs hres
     rw [hpk] at hr
     have hpost:bodyPost P fn (fun e W'=>∃ ρ':Env,(∀ n,n<b→ρ' n=ρ n)∧e=.returned (v.den ρ')∧Below w.heap.size w W'∧(∀ f∈fs',S.on ρ' f W')∧∀ k T cs,lk bx k=some (T,cs)→w.heap.size≤(ρ' k).pos∧Go.Proofs.YtefbfbdijimanaaGreatDoor.Rx.Bx W' (ρ' k).pos T (cs.map (Cell.den ρ'))) .ret a' W':=
      bodyPost_ret hr hs.df ⟨ρ',hl,rfl,hs.bel,by rw [← hfs];exact hs.fc,by rw [← hbx];exact hs.bx⟩
     rcases hxn with rfl | rfl
     ·exact hpost
     ·exact hpost
    split at h
    ·cases h
    ·rename_i x σ hne hx
     split at h
     ·rename_i l hl
      simp only [Option.some.injEq,Prod.mk.injEq] at h
      obtain ⟨h1,h2,h3⟩:=h
      refine hfin x σ l hx ?_ hl h1 h2 h3
      cases x with
      | normal=>exact .inl rfl
      | ret=>exact .inr rfl
      | exit i=>exact absurd rfl (hne i)
     ·cases h
    ·cases h
   ·cases h
  ·cases h
 ·cases h
theorem Yd {fuel:Nat} {f:FuncId} {args:List SV} {fs:List S.F} {b:Nat} {v:SV} {fs':List S.F} (h:aT P S H cons fuel f args fs b=some (v,fs')):∃ bx,vU P S H cons fuel f args fs b=some (v,fs',bx):=by
 unfold aT at h
 unfold vU
 split at h
 ·split at h
  ·split at h
   ·rename_i hok
    rw [if_pos hok]
    split at h
    ·cases h
    ·rename_i x σ hne hx
     split at h
     ·rename_i l hl
      cases h
      exact ⟨_,rfl⟩
     ·cases h
    ·cases h
   ·cases h
  ·cases h
 ·cases h
theorem gy {E:World→Prop} (hm:P.follows .mixedOrders=true) (hcons:∀ c∈cons,c.Ok P S E) {fuel:Nat} {f:FuncId} {args:List SV} {fs:List S.F} {b:Nat} {v:SV} {fs':List S.F} (h:aT P S H cons fuel f args fs b=some (v,fs'))
  {ρ:Env} {w:World} (hE:∀ W,Below w.heap.size w W→E W) (hf:∀ f∈fs,S.on ρ f w) (hlo:S.lo≤w.heap.size:=by exact Nat.zero_le _) :
  Calls P f (args.map (SV.den ρ)).toArray w fun e W'=>∃ ρ':Env,(∀ n,n<b→ρ' n=ρ n)∧e=.returned (v.den ρ')∧Below w.heap.size w W'∧∀ f∈fs',S.on ρ' f W':=by
 obtain ⟨bx,h'⟩:=Yd h
 exact (KP hm hcons h' hE hf hlo).mono fun e W' ⟨ρ',h1,h2,h3,h4,_⟩=>⟨ρ',h1,h2,h3,h4⟩
end
end Rx
namespace Rx
open Go.RowKit
theorem mixed:(Tryz.prog).follows .mixedOrders=true:=by kernel_rfl
def aH (s:Nat):List Cell:=[.ob s,.ou s,.os s,.ou (s+1),.os (s+1)]
def cZ (s:Nat):List Cell:=[.ob s,.os s,.bl false,.os (s+1)]
def zC (s:Nat):List Cell:=[.ob s,.os s]
def oZ (s:Nat):List Cell:=[.oi s,.oi (s+1),.o8 (s+2)]
def okC:List Cell→Bool
 | []=>true
 | .it .i64 _ :: _ | .oi _ :: _=>false
 | [_]=>true
 | a :: b :: r=>!((match a with | .it .u64 _ | .ou _=>true | _=>false) && (match b with | .it .u64 _ | .ou _=>true | _=>false)) && okC (b :: r)
theorem IY {ρ:Env} {c:Cell} (h:isI (c.den ρ)=true):(∃ n,c=.it .i64 n)∨∃ n,c=.oi n:=by
 cases c <;> simp [Cell.den,isI] at h ⊢
 rename_i k n
 cases k <;> simp at h ⊢
theorem I8 {ρ:Env} {c:Cell}:isU (c.den ρ)=(match c with | .it .u64 _ | .ou _=>true | _=>false):=by
 cases c <;> simp [Cell.den,isU]
 rename_i k n
 cases k <;> rfl
theorem zq (ρ:Env):∀ {l:List Cell},okC l=true→fD (l.map (Cell.den ρ))=true
 | [],_=>rfl
 | [c],h=>by
  simp only [List.map_cons,List.map_nil,fD]
  cases hi:isI (c.den ρ) with
  | false=>rfl
  | true =>
   rcases IY hi with ⟨n,rfl⟩ | ⟨n,rfl⟩ <;> simp [okC] at h
 | c :: d :: r,h=>by
  have hi:isI (c.den ρ)=false:=by
   cases hi:isI (c.den ρ) with
   | false=>rfl
   | true=>rcases IY hi with ⟨n,rfl⟩ | ⟨n,rfl⟩ <;> simp [okC] at h
  have h2:(!(isU (c.den ρ) && isU (d.den ρ)) && okC (d :: r))=true:=by
   rw [I8,I8]
   unfold okC at h
   split at h <;> first | (cases h;done) | skip
   all_goals first | (simp_all;done) | (rename_i he;cases he;exact h)
  simp only [Bool.and_eq_true] at h2
  have ih:=zq ρ h2.2
  simp only [List.map_cons] at ih ⊢
  simp only [fD,hi,ih,h2.1]
  rfl
def aK (ρ:Env) (b:Nat) (L:List Nv):Env:=fun n=>if b≤n then L[n - b]?.getD (ρ n) else ρ n
theorem jM {ρ:Env} {b:Nat} {L:List Nv} (hL:L.length≤M):∀ n,n<b∨b+M≤n→aK ρ b L n=ρ n:=fun n hn=>by
 unfold aK
 split
 ·rw [List.getElem?_eq_none (by simp only [M] at *;omega)];rfl
 ·rfl
end Rx
section
open Go.RowKit Go.Sort
def sgn (b:Bool) (n:Nat):Int:=if b then -1 else if n=0 then 0 else 1
theorem LH (b:Bool) (c d:Value) (n:Nat) (w:World) (h:ah w c d n):Calls Tryz.prog 66 #[.agg #[.bool b,c,d]] w (bF w (.int .i64 (sgn b n))):=by
 obtain ⟨x,p,l,k,rfl,rfl⟩:=h.shape
 have hb:=(Below.refl w.heap.size w).alloc (Nat.le_refl _) (.cells #[.bool b,.int .u64 x,.slice p l k] 30)
 have hz:=hid (dG _ _ n _ (h.below hb))
 have HB:=hid hb
 clear hb h
 cases b
 ·go_enter Tryz.func66,Tryz.ntmps66
  go_wp2_with fail
  refine hz.out.mono ?_
  rintro e w1 ⟨rfl,hB1⟩
  have HB1:=hid (HB.out.trans (hB1.mono HB.out.size))
  clear hz hB1
  by_cases h0:n=0
  ·have t:(n == 0)=true:=by rw [beq_iff_eq];exact h0
   clear h0
   have hs:Hid (sgn false n=0):=by show _=_;unfold sgn;rw [beq_iff_eq] at t;simp [t]
   go_wp2_with fail
   go_ret
   exact ⟨by rw [hs.out];rfl,HB1.out⟩
  ·have t:(n == 0)=false:=by rw [beq_eq_false_iff_ne];exact h0
   have hs:Hid (sgn false n=1):=by show _=_;unfold sgn;simp [h0]
   clear h0
   go_wp2_with fail
   go_ret
   exact ⟨by rw [hs.out];rfl,HB1.out⟩
 ·go_enter Tryz.func66,Tryz.ntmps66
  go_wp2_with fail
  go_ret
  exact ⟨rfl,HB.out⟩
theorem yE (v0 c d e f:Value) (m:Nat) (w:World) (h:ah w e f m):Calls Tryz.prog 76 #[.agg #[v0,c,d,e,f]] w (bF w (.bool (m == 0))):=by
 obtain ⟨x,p,l,k,rfl,rfl⟩:=h.shape
 have hb:=(Below.refl w.heap.size w).alloc (Nat.le_refl _) (.cells #[v0,c,d,.int .u64 x,.slice p l k] 32)
 have hz:=hid (dG _ _ m _ (h.below hb))
 have HB:=hid hb
 clear hb h
 go_enter Tryz.func76,Tryz.ntmps76
 go_wp2_with fail
 refine hz.out.mono ?_
 rintro e w1 ⟨rfl,hB1⟩
 go_wp2_with fail
 go_ret
 exact ⟨rfl,HB.out.trans (hB1.mono HB.out.size)⟩
theorem uq (b:Bool) (c d e f:Value) (n:Nat) (w:World) (h:ah w c d n):Calls Tryz.prog 9 #[.agg #[.bool b,c,d,e,f]] w (bF w (.int .i64 (sgn b n))):=by
 obtain ⟨x,p,l,k,rfl,rfl⟩:=h.shape
 have hb:=(Below.refl w.heap.size w).alloc (Nat.le_refl _) (.cells #[.bool b,.int .u64 x,.slice p l k,e,f] 32)
 have hz:=hid (LH b _ _ n _ (h.below hb))
 have HB:=hid hb
 clear hb h
 go_enter Tryz.func9,Tryz.ntmps9
 go_wp2_with fail
 refine hz.out.mono ?_
 rintro e w1 ⟨rfl,hB1⟩
 go_wp2_with fail
 go_ret
 exact ⟨rfl,HB.out.trans (hB1.mono HB.out.size)⟩
def ak (m:Nat):Nat:=if m=0 then 1 else m
theorem MC (v0 c d e f:Value) (m:Nat) (w:World) (h:ah w e f m):Calls Tryz.prog 78 #[.agg #[v0,c,d,e,f]] w (aQ w (ak m)):=by
 obtain ⟨x,p,l,k,rfl,rfl⟩:=h.shape
 have hb:=((Below.refl w.heap.size w).alloc (Nat.le_refl _) (.cells #[v0,c,d,.int .u64 x,.slice p l k] 32)).alloc (by simp) (.cells #[.int .u64 0,.slice none 0 0] 28)
 have hz:=hid (yE v0 c d _ _ m _ (h.below hb))
 have hs:Slot ((w.alloc (.cells #[v0,c,d,.int .u64 x,.slice p l k] 32)).alloc (.cells #[.int .u64 0,.slice none 0 0] 28)) (w.heap.size+1):=by
  refine ⟨⟨.int .u64 0,?_⟩,⟨none,0,0,?_⟩,?_,?_⟩ <;> go_simp
 have hc:C5 ((w.alloc (.cells #[v0,c,d,.int .u64 x,.slice p l k] 32)).alloc (.cells #[.int .u64 0,.slice none 0 0] 28)) w.heap.size v0 c d (.int .u64 x) (.slice p l k):=by
  refine ⟨?_,?_,?_,?_,?_⟩ <;> go_simp
 have hsz:((w.alloc (.cells #[v0,c,d,.int .u64 x,.slice p l k] 32)).alloc (.cells #[.int .u64 0,.slice none 0 0] 28)).heap.size=w.heap.size+1+1:=by simp
 have HH:=hid (And.intro hb (And.intro (h.below hb) (And.intro hs (And.intro hc hsz))))
 clear hb h hs hc hsz
 go_enter Tryz.func78,Tryz.ntmps78
 go_wp2_with fail
 obtain ⟨W0,hW0⟩:∃ W0,(w.alloc (.cells #[v0,c,d,.int .u64 x,.slice p l k] 32)).alloc (.cells #[.int .u64 0,.slice none 0 0] 28)=W0:=⟨_,rfl⟩
 rw [hW0] at hz HH ⊢
 clear hW0
 refine hz.out.mono ?_
 rintro e w1 ⟨rfl,hB1⟩
 obtain ⟨hb,hm,hs,hc,hsz⟩:=HH.out
 have hb1:=hb.trans (hB1.mono hb.size)
 have hm1:=hm.below hB1
 have hs1:=hs.below hB1 (by omega)
 obtain ⟨a0,a1,a2,a3,a4⟩:=hc.below hB1 (by omega)
 obtain ⟨⟨y1,f1⟩,⟨u1,u2,u3,f2⟩,f3,f4⟩:=id hs1
 clear hz HH hb hm hs hc hB1 hsz
 have HB1:=hid (And.intro hb1 (And.intro hm1 hs1))
 clear hb1 hm1 hs1
 by_cases h0:m=0
 ·have t:(m == 0)=true:=by rw [beq_iff_eq];exact h0
  have hs:Hid (ak m=1):=by show _=_;unfold ak;rw [if_pos h0]
  clear h0
  obtain ⟨z1,z2⟩:=HB1.out.2.2.read (.int .u64 1) (.slice none 0 0)
  go_wp2_with fail
  refine bodyPost_ret (v:=.agg #[.int .u64 1,.slice none 0 0]) (by simp [results,Tryz.results78,go_sem,z1,z2]) rfl ?_
  rw [hs.out]
  exact ⟨_,_,rfl,.inl ⟨by decide,rfl,rfl⟩,(HB1.out.1.setCell (by simp) _).setCell (by simp) _⟩
 ·have t:(m == 0)=false:=by rw [beq_eq_false_iff_ne];exact h0
  have hs:Hid (ak m=m):=by show _=_;unfold ak;rw [if_neg h0]
  clear h0
  obtain ⟨z1,z2⟩:=HB1.out.2.2.read (.int .u64 x) (.slice p l k)
  go_wp2_with fail
  refine bodyPost_ret (v:=.agg #[.int .u64 x,.slice p l k]) (by simp [results,Tryz.results78,go_sem,z1,z2]) rfl ?_
  rw [hs.out]
  exact ⟨_,_,rfl,HB1.out.2.2.mag HB1.out.2.1,(HB1.out.1.setCell (by simp) _).setCell (by simp) _⟩
theorem qB (b:Bool) (x:Int) (p:Option Addr) (l k:Nat) (w:World):Calls Tryz.prog 75 #[.agg #[.bool b,.int .u64 x,.slice p l k]] w fun e w'=>e=.returned (.agg #[.bool b,.int .u64 x,.slice p l k,.int .u64 0,.slice none 0 0])∧Below w.heap.size w w':=by
 go_enter Tryz.func75,Tryz.ntmps75
 go_wp2_with fail
 refine bodyPost_ret (v:=.agg #[.bool b,.int .u64 x,.slice p l k,.int .u64 0,.slice none 0 0]) (by simp [results,Tryz.results75,go_sem]) rfl ⟨rfl,?_⟩
 exact ((Below.refl _ _).alloc (Nat.le_refl _) _).alloc (by simp) _
theorem UA (n:Nat) (hn:n<9223372036854775808) (w:World):Calls Tryz.prog 64 #[.int .i64 (n:Int)] w fun e w'=>e=.returned (.agg #[.bool false,.int .u64 (n:Int),.slice none 0 0])∧Below w.heap.size w w':=by
 have h0:0≤(n:Int):=by omega
 have t:decide ((n:Int)<0)=false:=by simp
 have hw:IntKind.u64.wrap (n:Int)=(n:Int):=by rw [kP,Nat.mod_eq_of_lt (by unfold B64;omega)]
 clear hn
 go_enter Tryz.func64,Tryz.ntmps64
 go_wp2_with fail
 refine bodyPost_ret (v:=.agg #[.bool false,.int .u64 (n:Int),.slice none 0 0]) (by simp [results,Tryz.results64,go_sem]) rfl ⟨rfl,?_⟩
 exact (Below.refl _ _).alloc (Nat.le_refl _) _
end
section
def zs (b:Bool) (n:Nat):Int:=if b then -(n:Int) else n
theorem nY (b:Bool) (n:Nat):(zs b n).natAbs=n:=by cases b <;> simp [zs]
theorem Ar (z:Int):zs (decide (z<0)) z.natAbs=z:=by
 unfold zs
 by_cases h:z<0
 ·simp [h];omega
 ·simp [h];omega
theorem Nj (b:Bool):zs b 0=0:=by cases b <;> rfl
theorem Nh {b:Bool} {n:Nat} (h:n≠0):decide (zs b n<0)=b:=by cases b <;> simp [zs] <;> omega
theorem aa4 (b c:Bool) (n m:Nat):zs b n*zs c m=zs (b != c) (n*m):=by
 cases b <;> cases c <;> simp [zs,Int.neg_mul,Int.mul_neg]
theorem wH (b:Bool) (n m:Nat):zs b (n*m)=zs b n*m:=by cases b <;> simp [zs,Int.neg_mul]
theorem Jv {z:Int} {m:Nat} (hm:m≠0) (hc:Nat.Coprime z.natAbs m):(mkRat z m).num=z∧(mkRat z m).den=m:=by
 have:=Rat.mkRat_self ⟨z,m,hm,hc⟩
 simp only at this
 rw [this]
 exact ⟨rfl,rfl⟩
theorem Ju (b:Bool) (n m g:Nat) (hm:m≠0) (hg:g≠0) (h1:g∣n) (h2:g∣m):mkRat (zs b (n / g)) (m / g)=mkRat (zs b n) m:=by
 obtain ⟨n',rfl⟩:=h1
 obtain ⟨m',rfl⟩:=h2
 have hm':m'≠0:=fun e=>hm (by rw [e,Nat.mul_zero])
 rw [Nat.mul_div_cancel_left _ (by omega),Nat.mul_div_cancel_left _ (by omega),Rat.mkRat_eq_iff hm' hm,Nat.mul_comm g n',wH]
 push_cast
 grind
theorem rG (n m:Nat) (hm:m≠0):Nat.gcd n m≠0∧Nat.Coprime (n / Nat.gcd n m) (m / Nat.gcd n m)∧m / Nat.gcd n m≠0:=by
 have h0:0<Nat.gcd n m:=Nat.gcd_pos_of_pos_right _ (by omega)
 refine ⟨by omega,Nat.coprime_div_gcd_div_gcd h0,?_⟩
 have:=Nat.div_pos (Nat.gcd_le_right n (by omega:0<m)) h0
 omega
end
section
open Go.RowKit Go.Sort
theorem Uz (m X:Nat) (hm:1≤m) (hX:m+X=B64) (w:World) (hm2:m≤9223372036854775808):Calls Tryz.prog 64 #[.int .i64 (-(m:Int))] w fun e w'=>e=.returned (.agg #[.bool true,.int .u64 (m:Int),.slice none 0 0])∧Below w.heap.size w w':=by
 have t:0<m:=hm
 have hw:IntKind.u64.wrap (-(m:Int))=(X:Int):=by rw [IntKind.wrap_u64];unfold B64 at hX;omega
 have hw2:IntKind.u64.wrap (-(X:Int))=(m:Int):=by rw [IntKind.wrap_u64];unfold B64 at hX;omega
 clear hm hX hm2
 go_enter Tryz.func64,Tryz.ntmps64
 go_wp2_with fail
 refine bodyPost_ret (v:=.agg #[.bool true,.int .u64 (m:Int),.slice none 0 0]) (by simp [results,Tryz.results64,go_sem]) rfl ⟨rfl,?_⟩
 exact (Below.refl _ _).alloc (Nat.le_refl _) _
theorem uS (n:Int) (h1:-9223372036854775808≤n) (h2:n<9223372036854775808) (w:World):Calls Tryz.prog 64 #[.int .i64 n] w fun e w'=>e=.returned (.agg #[.bool (decide (n<0)),.int .u64 (n.natAbs:Int),.slice none 0 0])∧Below w.heap.size w w':=by
 by_cases h:n<0
 ·obtain ⟨m,rfl⟩:∃ m:Nat,n = -(m:Int):=⟨n.natAbs,by omega⟩
  have:=Uz m (B64 - m) (by omega) (by unfold B64;omega) w (by omega)
  rw [show decide (-(m:Int)<0)=true by simp;omega,show (-(m:Int)).natAbs=m by omega]
  exact this
 ·obtain ⟨m,rfl⟩:∃ m:Nat,n=(m:Int):=⟨n.toNat,by omega⟩
  have:=UA m (by omega) w
  rw [show decide ((m:Int)<0)=false by simp,show ((m:Int)).natAbs=m by omega]
  exact this
theorem UL (w:World) {n:Nat} (h:n<B64):ah w (.int .u64 (n:Int)) (.slice none 0 0) n:=.inl ⟨h,rfl,rfl⟩
theorem kE (w:World):ah w (.int .u64 0) (.slice none 0 0) 0:=.inl ⟨aO,rfl,rfl⟩
theorem pG {w:World} {c d:Value} (z:Int) (h:ah w c d z.natAbs):IsQ w (.agg #[.bool (decide (z<0)),c,d,.int .u64 0,.slice none 0 0]) (z:Rat):=
 ⟨c,d,_,_,by rw [Rat.num_intCast],by rw [Rat.num_intCast];exact h,by unfold bg;rw [Rat.den_intCast,if_pos rfl];exact kE w⟩
theorem I5 {w:World} {b:Bool} {c d e f:Value} {n m:Nat} (h0:n≠0) (hc:Nat.Coprime n m) (h1:ah w c d n) (hm:m≠0) (h2:ah w e f (if m=1 then 0 else m)):IsQ w (.agg #[.bool b,c,d,e,f]) (mkRat (zs b n) m):=by
 obtain ⟨k1,k2⟩:=Jv (z:=zs b n) hm (by rw [nY];exact hc)
 refine ⟨c,d,e,f,by rw [k1,Nh h0],by rw [k1,nY];exact h1,?_⟩
 unfold bg
 rw [k2]
 exact h2
theorem pI (w:World):IsQ w (.agg #[.bool false,.int .u64 0,.slice none 0 0,.int .u64 0,.slice none 0 0]) 0:=
 pG 0 (kE w)
theorem Az (n:Int) (h1:-9223372036854775808≤n) (h2:n<9223372036854775808) (w:World):Calls Tryz.prog 15 #[.int .i64 n] w (aX w (n:Rat)):=by
 have hb:=(Below.refl w.heap.size w).alloc (Nat.le_refl _) (.cells #[.bool false,.int .u64 0,.slice none 0 0,.int .u64 0,.slice none 0 0] 32)
 have hs:fF (w.alloc (.cells #[.bool false,.int .u64 0,.slice none 0 0,.int .u64 0,.slice none 0 0] 32)) w.heap.size:=by
  refine ⟨⟨false,?_⟩,⟨0,?_⟩,⟨none,0,0,?_⟩,⟨0,?_⟩,⟨none,0,0,?_⟩,?_,?_,?_,?_,?_⟩ <;> go_simp
 have hsz:(w.alloc (.cells #[.bool false,.int .u64 0,.slice none 0 0,.int .u64 0,.slice none 0 0] 32)).heap.size=w.heap.size+1:=by simp
 have HI:=hid (uS n h1 h2)
 have HB:=hid (And.intro hb (And.intro hs hsz))
 have HN:=hid (And.intro h1 h2)
 clear hb hs hsz h1 h2
 go_enter Tryz.func15,Tryz.ntmps15
 go_wp2_with fail
 obtain ⟨W0,hW0⟩:∃ W0,w.alloc (.cells #[.bool false,.int .u64 0,.slice none 0 0,.int .u64 0,.slice none 0 0] 32)=W0:=⟨_,rfl⟩
 rw [hW0] at HB ⊢
 clear hW0
 refine (HI.out _).mono ?_
 rintro e w1 ⟨rfl,hB1⟩
 go_wp2_with fail
 refine (qB _ _ _ _ _ _).mono ?_
 rintro e w2 ⟨rfl,hB2⟩
 obtain ⟨k1,k2,k3⟩:=HB.out
 have hb2:=k1.trans ((hB1.trans (hB2.mono hB1.size)).mono k1.size)
 have hs2:=(k2.below hB1 (by omega)).below hB2 (by have:=hB1.size;omega)
 obtain ⟨r0,r1,r2,r3,r4,⟨c0,c1,c2,c3,c4⟩,f0,f1,f2,f3,f4⟩:=hs2.facts
 obtain ⟨⟨z0,z1,z2,z3,z4⟩,hH⟩:=hs2.done (v0:=.bool (decide (n<0))) hb2 (Nat.le_refl _) (UL w2 (n:=n.natAbs) (by have:=HN.out;unfold B64;omega)) (kE w2)
 clear k1 k2 k3 hB1 hB2 hb2 hs2 HI HB
 go_wp2_with fail
 exact bodyPost_ret (v:=.agg #[.bool (decide (n<0)),.int .u64 (n.natAbs:Int),.slice none 0 0,.int .u64 0,.slice none 0 0]) (by simp [results,Tryz.results15,go_sem,z0,z1,z2,z3,z4]) rfl ⟨_,rfl,pG n hH.out.1,hH.out.2.2⟩
end
section
open Go.RowKit Go.Sort
theorem Ji (b:Bool) (c d e f:Value) (n m:Nat) (w:World) (h1:ah w c d n) (h2:ah w e f m) (hc:Nat.Coprime n m) (hm:m≠0) :
  Calls Tryz.prog 82 #[.agg #[.bool b,c,d],.agg #[e,f]] w (aX w (mkRat (zs b n) m)):=by
 obtain ⟨x,p,l,k,rfl,rfl⟩:=h1.shape
 obtain ⟨x',p',l',k',rfl,rfl⟩:=h2.shape
 have hb:=(((Below.refl w.heap.size w).alloc (Nat.le_refl _) (.cells #[.bool b,.int .u64 x,.slice p l k] 30)).alloc (by simp) (.cells #[.int .u64 x',.slice p' l' k'] 28)).alloc (by simp;omega) (.cells #[.bool false,.int .u64 0,.slice none 0 0,.int .u64 0,.slice none 0 0] 32)
 have hs:fF (((w.alloc (.cells #[.bool b,.int .u64 x,.slice p l k] 30)).alloc (.cells #[.int .u64 x',.slice p' l' k'] 28)).alloc (.cells #[.bool false,.int .u64 0,.slice none 0 0,.int .u64 0,.slice none 0 0] 32)) (w.heap.size+1+1):=by
  refine ⟨⟨false,?_⟩,⟨0,?_⟩,⟨none,0,0,?_⟩,⟨0,?_⟩,⟨none,0,0,?_⟩,?_,?_,?_,?_,?_⟩ <;> go_simp
 have hx:C3 (((w.alloc (.cells #[.bool b,.int .u64 x,.slice p l k] 30)).alloc (.cells #[.int .u64 x',.slice p' l' k'] 28)).alloc (.cells #[.bool false,.int .u64 0,.slice none 0 0,.int .u64 0,.slice none 0 0] 32)) w.heap.size (.bool b) (.int .u64 x) (.slice p l k):=by
  refine ⟨?_,?_,?_⟩ <;> go_simp
 have hy:C2 (((w.alloc (.cells #[.bool b,.int .u64 x,.slice p l k] 30)).alloc (.cells #[.int .u64 x',.slice p' l' k'] 28)).alloc (.cells #[.bool false,.int .u64 0,.slice none 0 0,.int .u64 0,.slice none 0 0] 32)) (w.heap.size+1) (.int .u64 x') (.slice p' l' k'):=by
  refine ⟨?_,?_⟩ <;> go_simp
 have hsz:(((w.alloc (.cells #[.bool b,.int .u64 x,.slice p l k] 30)).alloc (.cells #[.int .u64 x',.slice p' l' k'] 28)).alloc (.cells #[.bool false,.int .u64 0,.slice none 0 0,.int .u64 0,.slice none 0 0] 32)).heap.size=w.heap.size+3:=by simp
 have m1:=h1.below hb
 have m2:=h2.below hb
 have HH:=hid (And.intro hb (And.intro hs (And.intro hx (And.intro hy (And.intro hsz (And.intro m1 m2))))))
 have HC:=hid (And.intro hc hm)
 clear h1 h2 hb hs hx hy hsz m1 m2 hc hm
 go_enter Tryz.func82,Tryz.ntmps82
 go_wp2_with fail
 obtain ⟨W0,hW0⟩:∃ W0,((w.alloc (.cells #[.bool b,.int .u64 x,.slice p l k] 30)).alloc (.cells #[.int .u64 x',.slice p' l' k'] 28)).alloc (.cells #[.bool false,.int .u64 0,.slice none 0 0,.int .u64 0,.slice none 0 0] 32)=W0:=⟨_,rfl⟩
 rw [hW0] at HH ⊢
 clear hW0
 refine (dG _ _ n _ HH.out.2.2.2.2.2.1).mono ?_
 rintro e w1 ⟨rfl,hB1⟩
 obtain ⟨hb,hs,hx,hy,hsz,m1,m2⟩:=HH.out
 have hb1:=hb.trans (hB1.mono hb.size)
 have hs1:=hs.below hB1 (by omega)
 have hx1:=hx.below hB1 (by omega)
 have hy1:=hy.below hB1 (by omega)
 have n1:=m1.below hB1
 have n2:=m2.below hB1
 have hsz1:w.heap.size+3≤w1.heap.size:=by have:=hB1.size;omega
 clear hb hs hx hy hsz m1 m2 HH hB1
 by_cases h0:n=0
 ·have t:(n == 0)=true:=by rw [beq_iff_eq];exact h0
  obtain ⟨r0,r1,r2,r3,r4,⟨c0,c1,c2,c3,c4⟩,f0,f1,f2,f3,f4⟩:=hs1.facts
  obtain ⟨⟨z0,z1,z2,z3,z4⟩,hH⟩:=hs1.done (v0:=.bool false) hb1 (by omega) (kE w1) (kE w1)
  have HZ:Hid (mkRat (zs b n) m=0):=by show _=_;rw [h0,Nj,Rat.zero_mkRat]
  clear hb1 hs1 hx1 hy1 n1 n2 hsz1 h0 HC
  go_wp2_with fail
  refine bodyPost_ret (v:=.agg #[.bool false,.int .u64 0,.slice none 0 0,.int .u64 0,.slice none 0 0]) (by simp [results,Tryz.results82,go_sem,z0,z1,z2,z3,z4]) rfl ?_
  rw [HZ.out]
  exact ⟨_,rfl,pI _,hH.out.2.2⟩
 ·have t:(n == 0)=false:=by rw [beq_eq_false_iff_ne];exact h0
  have H0:=hid h0
  clear h0
  obtain ⟨c0,c1,c2⟩:=hx1
  obtain ⟨d0,d1⟩:=hy1
  go_wp2_with fail
  refine (dR _ _ m _ n2).mono ?_
  rintro e w2 ⟨rfl,hB2⟩
  have hb2:=hb1.trans (hB2.mono hb1.size)
  have hs2:=hs1.below hB2 (by omega)
  obtain ⟨c0',c1',c2'⟩:=C3.below ⟨c0,c1,c2⟩ hB2 (by omega)
  obtain ⟨d0',d1'⟩:=C2.below ⟨d0,d1⟩ hB2 (by omega)
  have k1:=n1.below hB2
  have k2:=n2.below hB2
  have hsz2:w.heap.size+3≤w2.heap.size:=by have:=hB2.size;omega
  clear c0 c1 c2 d0 d1 n1 n2 hb1 hs1 hB2 hsz1
  by_cases h1:m=1
  ·have t1:(m == 1)=true:=by rw [beq_iff_eq];exact h1
   have H1:=hid h1
   clear h1
   have HK:=hid (And.intro hb2 (And.intro hs2 k1))
   clear hb2 hs2 k1 k2
   go_wp2_with fail
   refine (qB _ _ _ _ _ _).mono ?_
   rintro e w3 ⟨rfl,hB3⟩
   obtain ⟨hb2,hs2,k1⟩:=HK.out
   have hs3:=hs2.below hB3 (by omega)
   have hb3:=hb2.trans (hB3.mono hb2.size)
   obtain ⟨r0,r1,r2,r3,r4,⟨e0,e1,e2,e3,e4⟩,f0,f1,f2,f3,f4⟩:=hs3.facts
   obtain ⟨⟨z0,z1,z2,z3,z4⟩,hH⟩:=hs3.done (v0:=.bool b) hb3 (by omega) (k1.below hB3) (kE w3)
   clear hb2 hs2 k1 hs3 hb3 hB3 HK c0' c1' c2' d0' d1'
   go_wp2_with fail
   exact bodyPost_ret (v:=.agg #[.bool b,.int .u64 x,.slice p l k,.int .u64 0,.slice none 0 0]) (by simp [results,Tryz.results82,go_sem,z0,z1,z2,z3,z4]) rfl ⟨_,rfl,I5 H0.out HC.out.1 hH.out.1 HC.out.2 (by rw [if_pos H1.out];exact hH.out.2.1),hH.out.2.2⟩
  ·have t1:(m == 1)=false:=by rw [beq_eq_false_iff_ne];exact h1
   have H1:=hid h1
   clear h1
   obtain ⟨r0,r1,r2,r3,r4,⟨e0,e1,e2,e3,e4⟩,f0,f1,f2,f3,f4⟩:=hs2.facts
   obtain ⟨⟨z0,z1,z2,z3,z4⟩,hH⟩:=hs2.done (v0:=.bool b) hb2 (by omega) k1 k2
   clear hb2 hs2 k1 k2
   go_wp2_with fail
   exact bodyPost_ret (v:=.agg #[.bool b,.int .u64 x,.slice p l k,.int .u64 x',.slice p' l' k']) (by simp [results,Tryz.results82,go_sem,z0,z1,z2,z3,z4]) rfl ⟨_,rfl,I5 H0.out HC.out.1 hH.out.1 HC.out.2 (by rw [if_neg H1.out];exact hH.out.2.1),hH.out.2.2⟩
end
end Go.Proofs.YtefbfbdijimanaaGreatDoor
