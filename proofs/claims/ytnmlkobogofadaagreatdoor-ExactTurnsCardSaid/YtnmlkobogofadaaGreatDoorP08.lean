/- What the proof rests on, part 8: Lehmer's simulation of Euclid's steps on the highest digits. What Euclid's algorithm keeps in memory: four rows of one block, and the cells that point at them. A step of Euclid's algorithm on the long numbers: a division. Several steps of Euclid's algorithm on the long numbers. Newton's root, the bi -/
import Derived.Test.YtnmlkobogofadaaGreatDoorP07
import Derived.Test.YtnmlkobogofadaaGreatDoorP06
namespace Go.Proofs.YtnmlkobogofadaaGreatDoor
set_option maxRecDepth 100000
set_option maxHeartbeats 80000000
open Go.RowKit Go.Sort
def RetSim (w:World) (a b:Nat) (e:Ending) (w':World):Prop:=
 ∃ (fA fB tA tB:Nat) (od:Bool),e=.returned (.agg #[.int .u64 fA,.int .u64 fB,.int .u64 tA,.int .u64 tB,.bool od])∧SimOut a b fA fB tA tB od∧Below w.heap.size w w'
def B5 (W:World) (b:Nat) (v0 v1 v2 v3 v4:Value):Prop:=
 C5 W b v0 v1 v2 v3 v4∧W.frozen? ⟨b,0,none⟩=false∧W.frozen? ⟨b,1,none⟩=false∧W.frozen? ⟨b,2,none⟩=false∧W.frozen? ⟨b,3,none⟩=false∧W.frozen? ⟨b,4,none⟩=false
abbrev set5 (W:World) (b:Nat) (u0 u1 u2 u3 u4:Value):World:=
 ((((W.setCell ⟨b,0,none⟩ u0).setCell ⟨b,1,none⟩ u1).setCell ⟨b,2,none⟩ u2).setCell ⟨b,3,none⟩ u3).setCell ⟨b,4,none⟩ u4
theorem B5.same {W:World} {b:Nat} {v0 v1 v2 v3 v4:Value} (h:B5 W b v0 v1 v2 v3 v4) (u0 u1 u2 u3 u4:Value):B5 (set5 W b u0 u1 u2 u3 u4) b u0 u1 u2 u3 u4:=by
 obtain ⟨⟨h0,h1,h2,h3,h4⟩,f0,f1,f2,f3,f4⟩:=h
 refine ⟨⟨?_,?_,?_,?_,?_⟩,?_,?_,?_,?_,?_⟩
 ·rw [World.cell?_setCell_other _ _ _ _ (by simp),World.cell?_setCell_other _ _ _ _ (by simp),World.cell?_setCell_other _ _ _ _ (by simp),World.cell?_setCell_other _ _ _ _ (by simp)]
  exact World.cell?_setCell_same _ _ _ h0
 ·rw [World.cell?_setCell_other _ _ _ _ (by simp),World.cell?_setCell_other _ _ _ _ (by simp),World.cell?_setCell_other _ _ _ _ (by simp)]
  refine World.cell?_setCell_same (u:=v1) _ _ _ ?_
  rw [World.cell?_setCell_other _ _ _ _ (by simp)];exact h1
 ·rw [World.cell?_setCell_other _ _ _ _ (by simp),World.cell?_setCell_other _ _ _ _ (by simp)]
  refine World.cell?_setCell_same (u:=v2) _ _ _ ?_
  rw [World.cell?_setCell_other _ _ _ _ (by simp),World.cell?_setCell_other _ _ _ _ (by simp)];exact h2
 ·rw [World.cell?_setCell_other _ _ _ _ (by simp)]
  refine World.cell?_setCell_same (u:=v3) _ _ _ ?_
  rw [World.cell?_setCell_other _ _ _ _ (by simp),World.cell?_setCell_other _ _ _ _ (by simp),World.cell?_setCell_other _ _ _ _ (by simp)];exact h3
 ·refine World.cell?_setCell_same (u:=v4) _ _ _ ?_
  rw [World.cell?_setCell_other _ _ _ _ (by simp),World.cell?_setCell_other _ _ _ _ (by simp),World.cell?_setCell_other _ _ _ _ (by simp),World.cell?_setCell_other _ _ _ _ (by simp)];exact h4
 all_goals simp only [World.frozen?_setCell];assumption
theorem B5.far {W:World} {b b':Nat} {v0 v1 v2 v3 v4:Value} (h:B5 W b v0 v1 v2 v3 v4) (hne:b'≠b) (u0 u1 u2 u3 u4:Value):B5 (set5 W b' u0 u1 u2 u3 u4) b v0 v1 v2 v3 v4:=by
 obtain ⟨⟨h0,h1,h2,h3,h4⟩,f0,f1,f2,f3,f4⟩:=h
 refine ⟨⟨?_,?_,?_,?_,?_⟩,?_,?_,?_,?_,?_⟩
 all_goals first | (simp only [World.frozen?_setCell];assumption) | (rw [World.cell?_setCell_far _ _ _ _ hne,World.cell?_setCell_far _ _ _ _ hne,World.cell?_setCell_far _ _ _ _ hne,World.cell?_setCell_far _ _ _ _ hne,World.cell?_setCell_far _ _ _ _ hne];assumption)
def SimW (w wr:World) (fA fB tA tB:Nat) (od:Bool):Prop:=
 Below w.heap.size w wr∧w.heap.size+1<wr.heap.size∧B5 wr (w.heap.size+1) (.int .u64 fA) (.int .u64 fB) (.int .u64 tA) (.int .u64 tB) (.bool od)∧∃ v0 v1 v2 v3 v4,B5 wr w.heap.size v0 v1 v2 v3 v4
theorem SimW.drewN {w wr:World} {fA fB tA tB:Nat} {od:Bool} (h:SimW w wr fA fB tA tB od) (q:Nat):SimW w (wr.drewN q) fA fB tA tB od:=
 ⟨h.1.trans (below_drewN _ q),h.2.1,h.2.2.1,h.2.2.2⟩
theorem SimW.store {w wr:World} {fA fB tA tB:Nat} {od:Bool} (h:SimW w wr fA fB tA tB od) (fA' fB' tA' tB':Nat) (od':Bool) :
  SimW w (set5 wr (w.heap.size+1) (.int .u64 fA') (.int .u64 fB') (.int .u64 tA') (.int .u64 tB') (.bool od')) fA' fB' tA' tB' od':=by
 obtain ⟨h1,h2,h3,v0,v1,v2,v3,v4,h4⟩:=h
 refine ⟨((((h1.setCell (by simp) _).setCell (by simp) _).setCell (by simp) _).setCell (by simp) _).setCell (by simp) _,by simpa using h2,h3.same _ _ _ _ _,v0,v1,v2,v3,v4,h4.far (by omega) _ _ _ _ _⟩
theorem SimW.start (w:World) (q:Nat) (t:TypeId) (v0 v1 v2 v3 v4:Value) (fA fB tA tB:Nat) (od:Bool) :
  SimW w (((w.alloc (.cells #[v0,v1,v2,v3,v4] t)).drewN q).alloc (.cells #[.int .u64 fA,.int .u64 fB,.int .u64 tA,.int .u64 tB,.bool od] t)) fA fB tA tB od:=by
 refine ⟨(((Below.refl _ _).alloc (Nat.le_refl _) _).trans (below_drewN _ q)).alloc (by simp) _,by simp,?_,v0,v1,v2,v3,v4,?_⟩
 ·refine ⟨⟨?_,?_,?_,?_,?_⟩,?_,?_,?_,?_,?_⟩ <;> go_simp
 ·refine ⟨⟨?_,?_,?_,?_,?_⟩,?_,?_,?_,?_,?_⟩ <;> go_simp
def SimR (a b x0 y0:Nat) (w:World) (xv yv nav nbv:Value) (wr:World):Prop:=
 ∃ (x y fA fB tA tB nA nB:Nat) (od:Bool),xv=.int .u64 x∧yv=.int .u64 y∧nav=.int .u64 nA∧nbv=.int .u64 nB∧Sim a b x0 y0 x y fA fB tA tB nA nB od∧SimW w wr fA fB tA tB od
theorem top_shift (x:Nat) (hx:x<B64) (h0:x≠0):∃ s,Lib.bitLen x+s=64∧s≤63∧x*2 ^ s<B64:=by
 have h1:=(Lib.bitLenAux_bounds 64 x (by unfold B64 at hx;omega) (by omega))
 have h2:Lib.bitLen x≤64:=Lib.bitLen_le x 64 (by omega) (by unfold B64 at hx;omega)
 refine ⟨64 - Lib.bitLen x,by omega,?_,?_⟩
 ·have:=h1.1
  unfold Lib.bitLen
  omega
 ·have h3:x<2 ^ Lib.bitLen x:=h1.2.2
  have h4:2 ^ Lib.bitLen x*2 ^ (64 - Lib.bitLen x)=B64:=two_split _ h2
  rw [← h4]
  exact Nat.mul_lt_mul_of_pos_right h3 (Nat.two_pow_pos _)
theorem simulate_calls (D ba oa ca bb ob cb n lb:Nat) (xs ys:List Nat) (w:World) (hD:D<w.heap.size)
  (c0:w.cell? ⟨D,0,none⟩=some (.slice (some ⟨ba,oa,none⟩) (n+2) ca)) (c1:w.cell? ⟨D,1,none⟩=some (.slice (some ⟨bb,ob,none⟩) lb cb))
  (hba:ba<w.heap.size) (hbb:bb<w.heap.size) (hx:Digs w ba oa xs) (hy:Digs w bb ob ys) (dx:Dig xs) (dy:Dig ys) (tx:Trimmed xs) (hlx:xs.length=n+2) (hly:ys.length=lb) (hlb:lb≤n+2) (hn:n≤549755813888) (hle:val ys≤val xs) :
  Calls Tryz.prog 219 #[.pointer (some ⟨D,0,none⟩)] w (RetSim w (val xs) (val ys)):=by
 have hx1:xs[n+1]?.getD 0<B64:=dx.getD _
 have hx0:xs[n+1]?.getD 0≠0:=by
  have hne:xs≠[]:=by intro e;subst e;simp at hlx
  have e:=tx hne
  rw [List.getLast_eq_getElem] at e
  rw [List.getElem?_eq_getElem (by omega)]
  simp only [hlx] at e
  exact e
 obtain ⟨s,hs,hs63,htop⟩:=top_shift _ hx1 hx0
 have HLZ:=hid (LZ_calls _ s hx1 hs)
 have hcx:=hx (n+1) (by omega)
 obtain ⟨ra,hra,ea⟩:=win_val s n xs (by omega) dx hs63 htop
 have htopy:ys[n+1]?.getD 0*2 ^ s<B64:=by
  refine Nat.lt_of_le_of_lt (Nat.mul_le_mul_right _ ?_) htop
  rcases Nat.lt_or_ge (n+1) ys.length with h | h
  ·have h1:=val_split xs (n+1) (by omega)
   have h2:=val_split ys (n+1) (by omega)
   have h3:val (xs.drop (n+1))=xs[n+1]?.getD 0:=by
    rw [List.drop_eq_getElem_cons (by omega),List.drop_of_length_le (by omega),List.getElem?_eq_getElem (by omega)]
    simp [val]
   have h4:val (ys.drop (n+1))=ys[n+1]?.getD 0:=by
    rw [List.drop_eq_getElem_cons (by omega),List.drop_of_length_le (by omega),List.getElem?_eq_getElem (by omega)]
    simp [val]
   rw [h3] at h1
   rw [h4] at h2
   have h5:=val_lt (dx.take (n+1))
   rw [List.length_take,Nat.min_eq_left (by omega)] at h5
   refine win_le (K:=B64 ^ (n+1)) (ra:=val (xs.take (n+1))) (rb:=val (ys.take (n+1))) (a:=val xs) (b:=val ys) ?_ ?_ h5 hle
   ·rw [h1,Nat.mul_comm];omega
   ·rw [h2,Nat.mul_comm];omega
  ·rw [List.getElem?_eq_none h];exact Nat.zero_le _
 obtain ⟨rb,hrb,eb⟩:=win_val s n ys (by omega) dy hs63 htopy
 have hle2:=win_le ea eb hra hle
 have hx0l:=shl2_lt s (xs[n+1]?.getD 0) (xs[n]?.getD 0) (by omega) (dx.getD n)
 have HW:=hid (fun (w':World) (hb:Below w.heap.size w w')=>And.intro (window_calls (n+2) n s ba oa ca xs w' (hx.below hb hba) dx hs63 (by omega) hlx) (window_calls lb n s bb ob cb ys w' (hy.below hb hbb) dy hs63 (by omega) hly))
 rw [Nat.mul_comm] at hra hrb
 obtain ⟨x1,e1⟩:∃ x1,xs[n+1]?.getD 0=x1:=⟨_,rfl⟩
 obtain ⟨x0,e0⟩:∃ x0,shl2 s (xs[n+1]?.getD 0) (xs[n]?.getD 0)=x0:=⟨_,rfl⟩
 obtain ⟨y0,ey0⟩:∃ y0,shl2 s (ys[n+1]?.getD 0) (ys[n]?.getD 0)=y0:=⟨_,rfl⟩
 rw [e0,ey0,show ((n+2:Nat):Int)=(n:Int)+2 by omega] at HW
 rw [e0] at ea hle2 hx0l
 rw [ey0] at eb hle2
 rw [e1] at HLZ hcx
 have HI:=hid (fun (x y fA fB tA tB nA nB:Nat) (odd:Bool) (h:Sim (val xs) (val ys) x0 y0 x y fA fB tA tB nA nB odd) (c1:nB≤y) (c2:tB+nB≤x - y)=>And.intro (h.step ea eb (by rw [Nat.mul_comm];exact hra) (by rw [Nat.mul_comm];exact hrb) hx0l c1 c2) (h.sum hx0l c1))
 have HX0:=hid hx0l
 have HS:=hid (Sim.start (val xs) (val ys) x0 y0 hle2 hx0l)
 obtain ⟨a,hva⟩:∃ a,val xs=a:=⟨_,rfl⟩
 obtain ⟨b,hvb⟩:∃ b,val ys=b:=⟨_,rfl⟩
 rw [hva,hvb] at HI HS ⊢
 have hne:¬ w.heap.size=D:=by omega
 have hne2:¬ w.heap.size=ba:=by omega
 clear ea eb hra hrb hva hvb e0 ey0 e1 hx0 hx1 hs hx hy dx dy tx hlx hly hle hle2 hx0l htop htopy
 go_enter Tryz.func219,Tryz.ntmps219
 go_upto_region 3 with (go_at_call 225;refine (HLZ.out _).mono ?_;rintro e w' ⟨rfl,rfl⟩)
 have HB:Below w.heap.size w (w.alloc (.cells #[Value.int IntKind.u64 0,Value.int IntKind.u64 0,Value.int IntKind.u64 0,Value.int IntKind.u64 0,Value.bool false] 234)):=(Below.refl _ _).alloc (Nat.le_refl _) _
 have HW1:=hid (fun (q:Nat)=>(HW.out _ (HB.trans (below_drewN _ q))).1)
 have HW2:=hid (fun (q:Nat)=>(HW.out _ (HB.trans (below_drewN _ q))).2)
 go_quiet ((first | (go_at_call_of 244 oa;exact Calls.quiet_of_same ((HW1.out _).mono fun _ _ ⟨h1,h2⟩=>⟨h1,h2.symm⟩)) | (go_at_call_of 244 ob;exact Calls.quiet_of_same ((HW2.out _).mono fun _ _ ⟨h1,h2⟩=>⟨h1,h2.symm⟩))))
 clear HW1 HW2 HW HB
 go_wp2_with fail
 go_loopw [5,6,8,9] (fun xv yv nav nbv wr=>SimR a b x0 y0 w xv yv nav nbv wr) (fun xv yv _ _ _=>(intOf yv).toNat)
 case atStart=>exact ⟨x0,y0,0,0,1,0,0,1,true,rfl,rfl,rfl,rfl,HS.out,SimW.start w nq 234 _ _ _ _ _ 0 0 1 0 true⟩
 case round =>
  obtain ⟨x,y,fA,fB,tA,tB,nA,nB,od,rfl,rfl,rfl,rfl,hI,hW⟩:=hrel
  obtain ⟨hWB,hWs,⟨⟨k0,k1,k2,k3,k4⟩,f0,f1,f2,f3,f4⟩,v0,v1,v2,v3,v4,⟨⟨r0,r1,r2,r3,r4⟩,g0,g1,g2,g3,g4⟩⟩:=id hW
  have HW:=hid hW
  have HSim:=hid hI
  have HEnd:=hid (B5.same (W:=wr) (b:=w.heap.size) ⟨⟨r0,r1,r2,r3,r4⟩,g0,g1,g2,g3,g4⟩ (.int .u64 fA) (.int .u64 fB) (.int .u64 tA) (.int .u64 tB) (.bool od)).1
  have HBE:Hid (Below w.heap.size w (set5 wr w.heap.size (.int .u64 fA) (.int .u64 fB) (.int .u64 tA) (.int .u64 tB) (.bool od))):=hid (((((hWB.setCell (by simp) _).setCell (by simp) _).setCell (by simp) _).setCell (by simp) _).setCell (by simp) _)
  by_cases t1:nB≤y
  ·have hw1:=sub_word x y hI.le hI.hx
   have hsum:=hI.sum HX0.out t1
   have hw2:=add_word tB nB hsum
   have hy0:((y:Int) == 0)=false:=by rw [beq_eq_false_iff_ne];have:=hI.leh.pos;omega
   have hy1:¬ (y:Int)=0:=by have:=hI.leh.pos;omega
   by_cases t2:tB+nB≤x - y
   ·obtain ⟨⟨hN,q1,q2,q3⟩,-⟩:=HI.out x y fA fB tA tB nA nB od hI t1 t2
    have hq:=wrap_div x y hI.hx
    have hr:((x:Int) % (y:Int))=((x % y:Nat):Int):=by push_cast;rfl
    have hlt:x % y<y:=Nat.mod_lt x (by omega)
    have hm1:=mul_word (x / y) nA q1
    have hm2:=mul_word (x / y) nB q2
    have ha1:=add_word tA (x / y*nA) hN.b5
    have ha2:=add_word tB (x / y*nB) hN.b6
    have HStore:=hid (HW.out.store tA tB nA nB (!od))
    obtain ⟨s0,s1,s2,s3,s4⟩:=HStore.out.2.2.1.1
    obtain ⟨d,hd⟩:∃ d,x - y=d:=⟨_,rfl⟩
    obtain ⟨S,hS⟩:∃ S,tB+nB=S:=⟨_,rfl⟩
    obtain ⟨q,hq'⟩:∃ q,x / y=q:=⟨_,rfl⟩
    obtain ⟨r,hr'⟩:∃ r,x % y=r:=⟨_,rfl⟩
    rw [hq'] at hN hq hm1 hm2 ha1 ha2
    rw [hr'] at hN hr hlt
    obtain ⟨m1,hm1'⟩:∃ m,q*nA=m:=⟨_,rfl⟩
    obtain ⟨m2,hm2'⟩:∃ m,q*nB=m:=⟨_,rfl⟩
    rw [hm1'] at hN hm1 ha1
    rw [hm2'] at hN hm2 ha2
    obtain ⟨n1,hn1⟩:∃ m,tA+m1=m:=⟨_,rfl⟩
    obtain ⟨n2,hn2⟩:∃ m,tB+m2=m:=⟨_,rfl⟩
    rw [hn1] at hN ha1
    rw [hn2] at hN ha2
    rw [hd] at hw1 t2
    rw [hS] at hw2 t2
    have HN:=hid hN
    clear hN hI hW hWB HI q1 q2 q3 hd hS hq' hr' hm1' hm2' hn1 hn2 HEnd HBE r0 r1 r2 r3 r4 g0 g1 g2 g3 g4 hsum HSim
    go_wp2_with (go_big_skip)
    go_quiet (fail)
    go_wp2_with (go_big_skip)
    go_quiet (fail)
    go_wp2_with (go_big_skip)
    clear s0 s1 s2 s3 s4
    go_roundw
    case rel=>exact ⟨y,r,tA,tB,nA,nB,n1,n2,!od,rfl,by rw [hr],rfl,rfl,HN.out,(((HW.out.drewN _).store tA tB nA nB (!od)).drewN _)⟩
    case measure=>simp [intOf];omega
   ·obtain ⟨d,hd⟩:∃ d,x - y=d:=⟨_,rfl⟩
    obtain ⟨S,hS⟩:∃ S,tB+nB=S:=⟨_,rfl⟩
    rw [hd] at hw1 t2
    rw [hS] at hw2 t2
    clear hI hW hWB HI hd hS hsum
    obtain ⟨z0,z1,z2,z3,z4⟩:=HEnd.out
    go_wp2_with fail
    exact bodyPost_ret (v:=.agg #[.int .u64 fA,.int .u64 fB,.int .u64 tA,.int .u64 tB,.bool od]) (by simp [results,Tryz.results219,go_sem,z0,z1,z2,z3,z4]) rfl ⟨fA,fB,tA,tB,od,rfl,HSim.out.out,HBE.out⟩
  ·clear hI hW hWB HI
   obtain ⟨z0,z1,z2,z3,z4⟩:=HEnd.out
   go_wp2_with fail
   exact bodyPost_ret (v:=.agg #[.int .u64 fA,.int .u64 fB,.int .u64 tA,.int .u64 tB,.bool od]) (by simp [results,Tryz.results219,go_sem,z0,z1,z2,z3,z4]) rfl ⟨fA,fB,tA,tB,od,rfl,HSim.out.out,HBE.out⟩
end Go.Proofs.YtnmlkobogofadaaGreatDoor
namespace Go.Proofs.YtnmlkobogofadaaGreatDoor
open Go.RowKit Go.Sort
structure Reg (W:World) (R o n:Nat) (z:List Nat):Prop where
 h:HoldsL W R o z
 l:z.length=n
 d:Dig z
theorem Reg.below {W W':World} {B R o n:Nat} {z:List Nat} (h:Reg W R o n z) (hb:Below B W W') (hR:R<B):Reg W' R o n z:=⟨h.h.below hb hR,h.l,h.d⟩
theorem Reg.set {W:World} {R o n:Nat} {z:List Nat} (h:Reg W R o n z) (a:Addr) (v:Value) (ha:a.block≠R):Reg (W.setCell a v) R o n z:=by
 refine ⟨fun j hj=>?_,h.l,h.d⟩
 obtain ⟨h1,h2⟩:=h.h j hj
 rw [World.frozen?_setCell]
 exact ⟨by rw [World.cell?_setCell_far _ _ _ _ (by simpa using ha)];exact h1,h2⟩
theorem Reg.put {W:World} {R o o' n q:Nat} {z ds:List Nat} (h:Reg W R o n z) (hs:o+n≤o'∨o' + n≤o) (hl:ds.length≤n):Reg (putL W q R o' ds) R o n z:=
 ⟨h.h.putL (by right;have:=h.l;omega),h.l,h.d⟩
theorem Reg.own {W:World} {R o n q:Nat} {z ds:List Nat} (h:Reg W R o n z) (hl:ds.length≤n) (hd:Dig ds):Reg (putL W q R o ds) R o n (ds ++ z.drop ds.length):=by
 have e:=putL_mid W q R o 0 z ds h.h (by have:=h.l;omega)
 simp only [Nat.add_zero,List.take_zero,List.nil_append,Nat.zero_add] at e
 rw [e]
 have hl':(ds ++ z.drop ds.length).length=z.length:=by rw [List.length_append,List.length_drop];have:=h.l;omega
 exact ⟨holdsL_putL _ _ _ _ _ _ h.h hl',by rw [hl',h.l],hd.append (h.d.drop _)⟩
structure Desc (B0:Nat) (W:World) (D R n oa ob oc oe la lb lc le:Nat) (za zb zc ze:List Nat):Prop where
 lD:B0≤D
 lR:B0≤R
 uD:D<W.heap.size
 uR:R<W.heap.size
 ne:D≠R
 c0:W.cell? ⟨D,0,none⟩=some (.slice (some ⟨R,oa,none⟩) la n)
 c1:W.cell? ⟨D,1,none⟩=some (.slice (some ⟨R,ob,none⟩) lb n)
 c2:W.cell? ⟨D,2,none⟩=some (.slice (some ⟨R,oc,none⟩) lc n)
 c3:W.cell? ⟨D,3,none⟩=some (.slice (some ⟨R,oe,none⟩) le n)
 f0:W.frozen? ⟨D,0,none⟩=false
 f1:W.frozen? ⟨D,1,none⟩=false
 f2:W.frozen? ⟨D,2,none⟩=false
 f3:W.frozen? ⟨D,3,none⟩=false
 ra:Reg W R oa n za
 rb:Reg W R ob n zb
 rc:Reg W R oc n zc
 re:Reg W R oe n ze
 sab:oa+n≤ob∨ob+n≤oa
 sac:oa+n≤oc∨oc+n≤oa
 sae:oa+n≤oe∨oe+n≤oa
 sbc:ob+n≤oc∨oc+n≤ob
 sbe:ob+n≤oe∨oe+n≤ob
 sce:oc+n≤oe∨oe+n≤oc
theorem Desc.below {B0:Nat} {W W':World} {D R n oa ob oc oe la lb lc le:Nat} {za zb zc ze:List Nat} (h:Desc B0 W D R n oa ob oc oe la lb lc le za zb zc ze) (hb:Below W.heap.size W W') :
  Desc B0 W' D R n oa ob oc oe la lb lc le za zb zc ze where
 lD:=h.lD
 lR:=h.lR
 uD:=Nat.lt_of_lt_of_le h.uD hb.size
 uR:=Nat.lt_of_lt_of_le h.uR hb.size
 ne:=h.ne
 c0:=(hb.cell (p:=⟨D,0,none⟩) h.uD).trans h.c0
 c1:=(hb.cell (p:=⟨D,1,none⟩) h.uD).trans h.c1
 c2:=(hb.cell (p:=⟨D,2,none⟩) h.uD).trans h.c2
 c3:=(hb.cell (p:=⟨D,3,none⟩) h.uD).trans h.c3
 f0:=(hb.frozen (p:=⟨D,0,none⟩) h.uD).trans h.f0
 f1:=(hb.frozen (p:=⟨D,1,none⟩) h.uD).trans h.f1
 f2:=(hb.frozen (p:=⟨D,2,none⟩) h.uD).trans h.f2
 f3:=(hb.frozen (p:=⟨D,3,none⟩) h.uD).trans h.f3
 ra:=h.ra.below hb h.uR
 rb:=h.rb.below hb h.uR
 rc:=h.rc.below hb h.uR
 re:=h.re.below hb h.uR
 sab:=h.sab
 sac:=h.sac
 sae:=h.sae
 sbc:=h.sbc
 sbe:=h.sbe
 sce:=h.sce
theorem Desc.drewN {B0:Nat} {W:World} {D R n oa ob oc oe la lb lc le:Nat} {za zb zc ze:List Nat} (h:Desc B0 W D R n oa ob oc oe la lb lc le za zb zc ze) (q:Nat) :
  Desc B0 (W.drewN q) D R n oa ob oc oe la lb lc le za zb zc ze:=h.below (below_drewN _ _)
theorem Desc.putC {B0:Nat} {W:World} {D R n oa ob oc oe la lb lc le q:Nat} {za zb zc ze ds:List Nat} (h:Desc B0 W D R n oa ob oc oe la lb lc le za zb zc ze) (hl:ds.length≤n) (hd:Dig ds) :
  Desc B0 (putL W q R oc ds) D R n oa ob oc oe la lb lc le za zb (ds ++ zc.drop ds.length) ze where
 lD:=h.lD
 lR:=h.lR
 uD:=by rw [size_putL];exact h.uD
 uR:=by rw [size_putL];exact h.uR
 ne:=h.ne
 c0:=by rw [cell_putL_other _ _ _ _ _ _ (.inl h.ne)];exact h.c0
 c1:=by rw [cell_putL_other _ _ _ _ _ _ (.inl h.ne)];exact h.c1
 c2:=by rw [cell_putL_other _ _ _ _ _ _ (.inl h.ne)];exact h.c2
 c3:=by rw [cell_putL_other _ _ _ _ _ _ (.inl h.ne)];exact h.c3
 f0:=by rw [frozen_putL];exact h.f0
 f1:=by rw [frozen_putL];exact h.f1
 f2:=by rw [frozen_putL];exact h.f2
 f3:=by rw [frozen_putL];exact h.f3
 ra:=h.ra.put h.sac hl
 rb:=h.rb.put h.sbc hl
 rc:=h.rc.own hl hd
 re:=h.re.put (Or.symm h.sce) hl
 sab:=h.sab
 sac:=h.sac
 sae:=h.sae
 sbc:=h.sbc
 sbe:=h.sbe
 sce:=h.sce
theorem Desc.putE {B0:Nat} {W:World} {D R n oa ob oc oe la lb lc le q:Nat} {za zb zc ze ds:List Nat} (h:Desc B0 W D R n oa ob oc oe la lb lc le za zb zc ze) (hl:ds.length≤n) (hd:Dig ds) :
  Desc B0 (putL W q R oe ds) D R n oa ob oc oe la lb lc le za zb zc (ds ++ ze.drop ds.length) where
 lD:=h.lD
 lR:=h.lR
 uD:=by rw [size_putL];exact h.uD
 uR:=by rw [size_putL];exact h.uR
 ne:=h.ne
 c0:=by rw [cell_putL_other _ _ _ _ _ _ (.inl h.ne)];exact h.c0
 c1:=by rw [cell_putL_other _ _ _ _ _ _ (.inl h.ne)];exact h.c1
 c2:=by rw [cell_putL_other _ _ _ _ _ _ (.inl h.ne)];exact h.c2
 c3:=by rw [cell_putL_other _ _ _ _ _ _ (.inl h.ne)];exact h.c3
 f0:=by rw [frozen_putL];exact h.f0
 f1:=by rw [frozen_putL];exact h.f1
 f2:=by rw [frozen_putL];exact h.f2
 f3:=by rw [frozen_putL];exact h.f3
 ra:=h.ra.put h.sae hl
 rb:=h.rb.put h.sbe hl
 rc:=h.rc.put h.sce hl
 re:=h.re.own hl hd
 sab:=h.sab
 sac:=h.sac
 sae:=h.sae
 sbc:=h.sbc
 sbe:=h.sbe
 sce:=h.sce
theorem cell_same {W:World} {b k:Nat} {v u:Value} (h:W.cell? ⟨b,k,none⟩=some v):(W.setCell ⟨b,k,none⟩ u).cell? ⟨b,k,none⟩=some u:=World.cell?_setCell_same _ _ _ h
theorem cell_next {W:World} {b k j:Nat} {v u:Value} (h:W.cell? ⟨b,k,none⟩=some v) (hne:j≠k):(W.setCell ⟨b,j,none⟩ u).cell? ⟨b,k,none⟩=some v:=by
 rw [World.cell?_setCell_other _ _ _ _ (fun e=>hne (by simpa using congrArg Addr.off e))];exact h
theorem Desc.turn3 {B0:Nat} {W:World} {D R n oa ob oc oe la lb lc le lc':Nat} {za zb zc ze:List Nat} (h:Desc B0 W D R n oa ob oc oe la lb lc le za zb zc ze) :
  Desc B0 (((W.setCell ⟨D,0,none⟩ (.slice (some ⟨R,ob,none⟩) lb n)).setCell ⟨D,1,none⟩ (.slice (some ⟨R,oc,none⟩) lc' n)).setCell ⟨D,2,none⟩ (.slice (some ⟨R,oa,none⟩) la n)) D R n ob oc oa oe lb lc' la le zb zc za ze where
 lD:=h.lD
 lR:=h.lR
 uD:=by simpa using h.uD
 uR:=by simpa using h.uR
 ne:=h.ne
 c0:=cell_next (cell_next (cell_same h.c0) (by omega)) (by omega)
 c1:=cell_next (cell_same (cell_next h.c1 (by omega))) (by omega)
 c2:=cell_same (cell_next (cell_next h.c2 (by omega)) (by omega))
 c3:=cell_next (cell_next (cell_next h.c3 (by omega)) (by omega)) (by omega)
 f0:=by simp only [World.frozen?_setCell];exact h.f0
 f1:=by simp only [World.frozen?_setCell];exact h.f1
 f2:=by simp only [World.frozen?_setCell];exact h.f2
 f3:=by simp only [World.frozen?_setCell];exact h.f3
 ra:=((h.rb.set _ _ h.ne).set _ _ h.ne).set _ _ h.ne
 rb:=((h.rc.set _ _ h.ne).set _ _ h.ne).set _ _ h.ne
 rc:=((h.ra.set _ _ h.ne).set _ _ h.ne).set _ _ h.ne
 re:=((h.re.set _ _ h.ne).set _ _ h.ne).set _ _ h.ne
 sab:=h.sbc
 sac:=Or.symm h.sab
 sae:=h.sbe
 sbc:=Or.symm h.sac
 sbe:=h.sce
 sce:=h.sae
theorem Desc.turn4 {B0:Nat} {W:World} {D R n oa ob oc oe la lb lc le lc' le':Nat} {za zb zc ze:List Nat} (h:Desc B0 W D R n oa ob oc oe la lb lc le za zb zc ze) :
  Desc B0 ((((W.setCell ⟨D,0,none⟩ (.slice (some ⟨R,oc,none⟩) lc' n)).setCell ⟨D,1,none⟩ (.slice (some ⟨R,oe,none⟩) le' n)).setCell ⟨D,2,none⟩ (.slice (some ⟨R,oa,none⟩) la n)).setCell ⟨D,3,none⟩ (.slice (some ⟨R,ob,none⟩) lb n)) D R n oc oe oa ob lc' le' la lb zc ze za zb where
 lD:=h.lD
 lR:=h.lR
 uD:=by simpa using h.uD
 uR:=by simpa using h.uR
 ne:=h.ne
 c0:=cell_next (cell_next (cell_next (cell_same h.c0) (by omega)) (by omega)) (by omega)
 c1:=cell_next (cell_next (cell_same (cell_next h.c1 (by omega))) (by omega)) (by omega)
 c2:=cell_next (cell_same (cell_next (cell_next h.c2 (by omega)) (by omega))) (by omega)
 c3:=cell_same (cell_next (cell_next (cell_next h.c3 (by omega)) (by omega)) (by omega))
 f0:=by simp only [World.frozen?_setCell];exact h.f0
 f1:=by simp only [World.frozen?_setCell];exact h.f1
 f2:=by simp only [World.frozen?_setCell];exact h.f2
 f3:=by simp only [World.frozen?_setCell];exact h.f3
 ra:=(((h.rc.set _ _ h.ne).set _ _ h.ne).set _ _ h.ne).set _ _ h.ne
 rb:=(((h.re.set _ _ h.ne).set _ _ h.ne).set _ _ h.ne).set _ _ h.ne
 rc:=(((h.ra.set _ _ h.ne).set _ _ h.ne).set _ _ h.ne).set _ _ h.ne
 re:=(((h.rb.set _ _ h.ne).set _ _ h.ne).set _ _ h.ne).set _ _ h.ne
 sab:=h.sce
 sac:=Or.symm h.sac
 sae:=Or.symm h.sbc
 sbc:=Or.symm h.sae
 sbe:=Or.symm h.sbe
 sce:=h.sab
structure Nums (n la lb:Nat) (za zb:List Nat) (A B:Nat):Prop where
 hla:la≤n
 hlb:lb≤n
 ta:Trimmed (za.take la)
 tb:Trimmed (zb.take lb)
 va:val (za.take la)=A
 vb:val (zb.take lb)=B
 le:B≤A
theorem Nums.len {n la lb A B:Nat} {za zb:List Nat} (h:Nums n la lb za zb A B) (ha:za.length=n) (hb:zb.length=n) (da:Dig za):lb≤la:=by
 rcases Nat.lt_or_ge la lb with h1 | h1
 ·have:=val_lt_of_length (xs:=za.take la) (ys:=zb.take lb) (da.take la) h.tb (by rw [List.length_take,List.length_take];have:=h.hla;have:=h.hlb;omega)
  rw [h.va,h.vb] at this
  have:=h.le
  omega
 ·exact h1
def RetDesc (B0:Nat) (w:World) (D R n A B:Nat) (e:Ending) (w':World):Prop:=
 ∃ (oa ob oc oe la lb lc le:Nat) (za zb zc ze:List Nat),e=.returned (.tuple #[])∧Desc B0 w' D R n oa ob oc oe la lb lc le za zb zc ze∧Nums n la lb za zb A B∧Below B0 w w'
end Go.Proofs.YtnmlkobogofadaaGreatDoor
namespace Go.Proofs.YtnmlkobogofadaaGreatDoor
set_option maxRecDepth 100000
set_option maxHeartbeats 80000000
open Go.RowKit Go.Sort
abbrev DS (w w':World) (D:Nat) (v0 v1:Value):Prop:=
 w'.cell? ⟨D,0,none⟩=some v0∧w'.cell? ⟨D,1,none⟩=some v1∧(D<w'.heap.size∧Below w.heap.size w w')
theorem DS.next {w W W':World} {D:Nat} {v0 v1:Value} (h:DS w W D v0 v1) (hb:Below W.heap.size W W'):DS w W' D v0 v1:=
 ⟨(hb.cell (p:=⟨D,0,none⟩) h.2.2.1).trans h.1,(hb.cell (p:=⟨D,1,none⟩) h.2.2.1).trans h.2.1,Nat.lt_of_lt_of_le h.2.2.1 hb.size,h.2.2.2.trans (hb.mono h.2.2.2.size)⟩
theorem DS.drew {w W:World} {D:Nat} {v0 v1:Value} (h:DS w W D v0 v1):DS w W.drew D v0 v1:=⟨h.1,h.2.1,h.2.2.1,h.2.2.2.drew⟩
theorem Desc.drew {B0:Nat} {W:World} {D R n oa ob oc oe la lb lc le:Nat} {za zb zc ze:List Nat} (h:Desc B0 W D R n oa ob oc oe la lb lc le za zb zc ze) :
  Desc B0 W.drew D R n oa ob oc oe la lb lc le za zb zc ze:=h.below (Below.refl _ _).drew
theorem ddivide_calls (B0 D R n oa ob oc oe la lb lc le A B:Nat) (za zb zc ze:List Nat) (w:World) (h:Desc B0 w D R n oa ob oc oe la lb lc le za zb zc ze) (hN:Nums n la lb za zb A B) (hlb:2≤lb) (hn:n≤137438953472) :
  Calls Tryz.prog 220 #[.pointer (some ⟨D,0,none⟩)] w (RetDesc B0 w D R n B (A % B)):=by
 have hle:=hN.len h.ra.l h.rb.l h.ra.d
 obtain ⟨m,rfl⟩:∃ m,lb=m+2:=⟨lb - 2,by omega⟩
 have hxl:(za.take la).length=la:=by rw [List.length_take,h.ra.l];exact Nat.min_eq_left hN.hla
 have hyl:(zb.take (m+2)).length=m+2:=by rw [List.length_take,h.rb.l];exact Nat.min_eq_left hN.hlb
 have HDV:=hid (fun (w':World) (hb:Below w.heap.size w w')=>divide_great R oa n R ob n m (za.take la) (zb.take (m+2)) w' ((h.below hb).ra.h.take la).digs ((h.below hb).rb.h.take (m+2)).digs (h.below hb).uR (h.below hb).uR (h.ra.d.take _) (h.rb.d.take _) hN.ta hN.tb (by rw [hxl];have:=hN.hla;omega) (by rw [hN.va,hN.vb];exact hN.le) hyl)
 rw [hxl,hN.va,hN.vb] at HDV
 have s0:DS w w D (.slice (some ⟨R,oa,none⟩) la n) (.slice (some ⟨R,ob,none⟩) (m+2) n):=⟨h.c0,h.c1,h.uD,Below.refl _ _⟩
 have HH:=hid h
 have HN:=hid hN
 have HLE:=hid hle
 clear h hN hxl hyl hle
 go_enter Tryz.func220,Tryz.ntmps220
 go_wp2_with fail
 go_region_held3 (fun w'=>DS w w' D (.slice (some ⟨R,oa,none⟩) la n) (.slice (some ⟨R,ob,none⟩) (m+2) n))
  ((first | assumption | exact DS.next (by assumption) (by assumption) | exact DS.drew (by assumption)))
  (first
   | (go_at_call 186;refine (HDV.out _ ?_).mono ?_;exact (‹DS w _ D (.slice (some ⟨R,oa,none⟩) la n) (.slice (some ⟨R,ob,none⟩) (m+2) n)›).2.2.2;rintro e wA ⟨qv,rv,rfl,hQ,hR,hBA⟩))
 have hB:Below w.heap.size w wA:=(‹DS w wA D (.slice (some ⟨R,oa,none⟩) la n) (.slice (some ⟨R,ob,none⟩) (m+2) n)›).2.2.2
 clear hQ hBA HDV
 have hA:=HH.out.below hB
 have HB:=hid hB
 have c2:=hA.c2
 clear hB
 have HPOS:Hid (0<B):=by
  show 0<B
  have e:=val_pos_of_trimmed HN.out.tb (by intro e;have:=congrArg List.length e;rw [List.length_take,HH.out.rb.l,Nat.min_eq_left HN.out.hlb] at this;simp at this)
  rw [HN.out.vb] at e;exact e
 rcases hR with ⟨hr0,rfl⟩ | ⟨b,o,cp,ds,rfl,h2,h3,h4,h5,h6,h7⟩
 ·have hsl:=sliceHi_run R oc lc n 0 (Nat.zero_le _)
  have hcp:=run_copy_none (P:=Tryz.prog) wA 25 25 3 23 (some ⟨R,oc,none⟩) none 0 n 0 0 Tryz.underlying25 Tryz.sizeU (by decide)
  have HD:=hid hr0
  have d0:=hA.c0
  have d1:=hA.c1
  have g0:=hA.f0
  have g1:=hA.f1
  have g2:=hA.f2
  have HP:=hid hA
  clear hA hr0
  go_wp2_with fail
  go_region
  all_goals (go_wp2_with fail)
  go_end0
  have hB1:=HB.out.mono (Nat.le_of_lt (Nat.lt_of_le_of_lt HH.out.lD HH.out.uD))
  have lD:=HH.out.lD
  refine ⟨ob,oc,oa,oe,m+2,0,la,le,zb,zc,za,ze,rfl,HP.out.turn3.drew,⟨HN.out.hlb,Nat.zero_le _,HN.out.tb,?_,HN.out.vb,?_,Nat.le_of_lt (Nat.mod_lt _ HPOS.out)⟩,(((hB1.setCell lD _).setCell lD _).setCell lD _).drew⟩
  ·rw [List.take_zero];intro h;exact absurd rfl h
  ·rw [List.take_zero,HD.out];rfl
 ·have hk:ds.length≤m+2:=by
   rcases Nat.lt_or_ge (m+2) ds.length with h1 | h1
   ·have:=val_lt_of_length (xs:=zb.take (m+2)) (ys:=ds) (HH.out.rb.d.take _) h5 (by rw [List.length_take];omega)
    have:=Nat.mod_lt A HPOS.out
    rw [HN.out.vb,h6] at *
    omega
   ·exact h1
  have hkn:ds.length≤n:=Nat.le_trans hk HN.out.hlb
  have hsl:=sliceHi_run R oc lc n ds.length hkn
  have hcp:=copyN_run 3 wA R oc ds.length n b o cp (zc.take ds.length) ds (hA.rc.h.take _) h7 (by rw [List.length_take,hA.rc.l];omega) (Nat.le_refl _)
  rw [List.drop_of_length_le (by rw [List.length_take];omega),List.append_nil] at hcp
  have hP:=hA.putC (q:=0) (ds:=ds) hkn h4
  have hbp:Below B0 wA (putL wA 0 R oc ds):=below_putL _ _ _ _ _ hA.lR
  obtain ⟨W2,hW2⟩:∃ W2,putL wA 0 R oc ds=W2:=⟨_,rfl⟩
  rw [hW2] at hcp hP hbp
  obtain ⟨k,hk'⟩:∃ k,ds.length=k:=⟨_,rfl⟩
  have HK:=hid (And.intro hk' (And.intro hkn hk))
  have HD:=hid (And.intro h4 (And.intro h5 h6))
  have HBP:=hid hbp
  rw [hk'] at hsl hcp hkn ⊢
  have d0:=hP.c0
  have d1:=hP.c1
  have g0:=hP.f0
  have g1:=hP.f1
  have g2:=hP.f2
  have d2:=hP.c2
  have HP:=hid hP
  clear hA hk hk' h2 h3 h4 h5 h6 h7 hW2 hP hbp
  go_wp2_with fail
  go_region
  all_goals (go_wp2_with fail)
  go_end0
  have hB1:=(HB.out.mono (Nat.le_of_lt (Nat.lt_of_le_of_lt HH.out.lD HH.out.uD))).trans HBP.out
  have lD:=HH.out.lD
  refine ⟨ob,oc,oa,oe,m+2,k,la,le,zb,ds ++ zc.drop ds.length,za,ze,rfl,HP.out.turn3.drew,⟨HN.out.hlb,hkn,HN.out.tb,?_,HN.out.vb,?_,Nat.le_of_lt (Nat.mod_lt _ HPOS.out)⟩,(((hB1.setCell lD _).setCell lD _).setCell lD _).drew⟩
  ·rw [← HK.out.1,List.take_left];exact HD.out.2.1
  ·rw [← HK.out.1,List.take_left];exact HD.out.2.2
end Go.Proofs.YtnmlkobogofadaaGreatDoor
namespace Go.Proofs.YtnmlkobogofadaaGreatDoor
set_option maxRecDepth 100000
set_option maxHeartbeats 80000000
open Go.RowKit Go.Sort
theorem still_tail {P:Program} {id:Nat} {Q:Exit→Act→World→Prop} {a:Act} {w:World} {l:List Oper} (n:Nat) (hm:P.follows .mixedOrders=true) (hB:Region.lexTailB .any l.toArray n=true)
  (h:wpStill P l.toArray w.drew (fun a'=>wpList P l.toArray Q (l.drop n) a' w.drew) (l.take n) a):(Code.region id l.toArray true).wp P Q a w:=
 wp_region_still_tail n hm hB h
theorem diff_reg {W:World} {R n ox oy oi lx ly nn:Nat} (li p q:Nat) {zx zy zi:List Nat} (rx:Reg W R ox n zx) (ry:Reg W R oy n zy) (ri:Reg W R oi n zi) (sx:ox+n≤oi∨oi+n≤ox) (sy:oy+n≤oi∨oi+n≤oy)
  (hp:p<B64) (hq:q<B64) (hn:n≤1099511627776) (hnn:nn≤n) (hxn:lx≤nn) (hyn:ly≤nn) (hmax:nn=lx∨nn=ly) (hle:val (zy.take ly)*q≤val (zx.take lx)*p) (hlt:val (zx.take lx)*p - val (zy.take ly)*q<B64 ^ nn) :
  Calls Tryz.prog 245 #[.slice (some ⟨R,oi,none⟩) li n,.slice (some ⟨R,ox,none⟩) lx n,.int .u64 (p:Int),.slice (some ⟨R,oy,none⟩) ly n,.int .u64 (q:Int)] W (RetDiff W R oi n nn (val (zx.take lx)*p - val (zy.take ly)*q)):=by
 have hlx:(zx.take lx).length=lx:=by rw [List.length_take,rx.l];omega
 have hly:(zy.take ly).length=ly:=by rw [List.length_take,ry.l];omega
 have hlz:(zi.take nn).length=nn:=by rw [List.length_take,ri.l];omega
 exact difference_calls li R oi n lx R ox n p ly R oy n q nn (zi.take nn) (zx.take lx) (zy.take ly) W (ri.h.take _) (rx.h.take _).digs (ry.h.take _).digs (by right;omega) (by right;omega) (ri.d.take _) (rx.d.take _) (ry.d.take _) hp hq (by omega) hnn hlx hly hlz hxn hyn hmax hle hlt
theorem follow_odd (B0 D R n oa ob oc oe la lb lc le A B fA fB tA tB a2 b2:Nat) (za zb zc ze:List Nat) (w:World) (h:Desc B0 w D R n oa ob oc oe la lb lc le za zb zc ze) (hN:Nums n la lb za zb A B) (hn:n≤137438953472)
  (h1:fA<B64) (h2:fB<B64) (h3:tA<B64) (h4:tB<B64) (h5:fA*A≤fB*B) (h6:a2=fB*B - fA*A) (h7:tB*B≤tA*A) (h8:b2=tA*A - tB*B) (h9:b2<a2) (h10:a2≤B) :
  Calls Tryz.prog 221 #[.pointer (some ⟨D,0,none⟩),.agg #[.int .u64 fA,.int .u64 fB,.int .u64 tA,.int .u64 tB,.bool true]] w (RetDesc B0 w D R n a2 b2):=by
 have hle:=hN.len h.ra.l h.rb.l h.ra.d
 have hAlt:A<B64 ^ la:=by
  have:=val_lt (h.ra.d.take la)
  rw [hN.va,List.length_take,h.ra.l,Nat.min_eq_left hN.hla] at this
  exact this
 have hAB:=hN.le
 have hb:=(Below.refl w.heap.size w).alloc (Nat.le_refl _) (.cells #[.int .u64 (fA:Int),.int .u64 (fB:Int),.int .u64 (tA:Int),.int .u64 (tB:Int),.bool true] 234)
 have h':=h.below hb
 have HB:=hid hb
 have hne:¬ w.heap.size=D:=by have:=h.uD;omega
 have bx:C5 (w.alloc (.cells #[.int .u64 (fA:Int),.int .u64 (fB:Int),.int .u64 (tA:Int),.int .u64 (tB:Int),.bool true] 234)) w.heap.size (.int .u64 (fA:Int)) (.int .u64 (fB:Int)) (.int .u64 (tA:Int)) (.int .u64 (tB:Int)) (.bool true):=by
  refine ⟨?_,?_,?_,?_,?_⟩ <;> go_simp
 have hnb:w.heap.size≠R:=by have:=h.uR;omega
 have HX:=hid (And.intro h5 (And.intro h6 (And.intro h7 (And.intro h8 (And.intro h9 h10)))))
 have HF:=hid (And.intro h1 (And.intro h2 (And.intro h3 h4)))
 have HL:=hid (And.intro hle (And.intro hAlt hAB))
 have HN:=hid hN
 have lD:=h.lD
 have uD0:=hid h.uD
 clear h hN hb hle hAlt hAB h1 h2 h3 h4 h5 h6 h7 h8 h9 h10
 go_enter Tryz.func221,Tryz.ntmps221
 go_wp2_with fail
 obtain ⟨W1,hW1⟩:∃ W1,w.alloc (.cells #[.int .u64 (fA:Int),.int .u64 (fB:Int),.int .u64 (tA:Int),.int .u64 (tB:Int),.bool true] 234)=W1:=⟨_,rfl⟩
 rw [hW1] at HB h' bx ⊢
 have c0:=h'.c0
 have c1:=h'.c1
 have c2:=h'.c2
 have c3:=h'.c3
 obtain ⟨b0,b1,b2',b3,b4⟩:=bx
 have HH:=hid h'
 clear h' hW1
 refine still_tail 16 (by kernel_rfl) (by kernel_rfl) ?_
 simp only [List.take_succ_cons,List.take_zero,List.drop_succ_cons,List.drop_zero]
 repeat still_step
 refine wpStill_nil ?_
 go_wp2_with fail
 refine (diff_reg lc fB fA HH.out.drew.rb HH.out.drew.ra HH.out.drew.rc HH.out.sbc HH.out.sac HF.out.2.1 HF.out.1 (by omega) HN.out.hla HL.out.1 (Nat.le_refl _) (.inr rfl) ?_ ?_).mono ?_
 ·rw [HN.out.va,HN.out.vb,Nat.mul_comm A,Nat.mul_comm B];exact HX.out.1
 ·rw [HN.out.va,HN.out.vb,Nat.mul_comm A,Nat.mul_comm B,← HX.out.2.1];exact Nat.lt_of_le_of_lt (Nat.le_trans HX.out.2.2.2.2.2 HL.out.2.2) HL.out.2.1
 rintro e w' ⟨k1,q1,ds1,rfl,rfl,g1,g2,g3,g4⟩
 rw [HN.out.va,HN.out.vb,Nat.mul_comm A,Nat.mul_comm B,← HX.out.2.1] at g4
 have P2:=HH.out.drew.putC (q:=q1) (ds:=ds1) (by rw [g1];exact HN.out.hla) g2
 have hB2:=((HB.out.mono (Nat.le_of_lt (Nat.lt_of_le_of_lt lD uD0.out))).drew).trans (below_putL (B:=B0) W1.drew q1 _ oc ds1 P2.lR)
 have k0:=(cell_putL_other W1.drew q1 R oc ds1 ⟨w.heap.size,0,none⟩ (.inl hnb)).trans b0
 have k1':=(cell_putL_other W1.drew q1 R oc ds1 ⟨w.heap.size,1,none⟩ (.inl hnb)).trans b1
 have k2:=(cell_putL_other W1.drew q1 R oc ds1 ⟨w.heap.size,2,none⟩ (.inl hnb)).trans b2'
 have k3:=(cell_putL_other W1.drew q1 R oc ds1 ⟨w.heap.size,3,none⟩ (.inl hnb)).trans b3
 obtain ⟨W2,hW2⟩:∃ W2,putL W1.drew q1 R oc ds1=W2:=⟨_,rfl⟩
 rw [hW2] at P2 hB2 k0 k1' k2 k3 ⊢
 clear hW2 c0 c1 c2 c3 b0 b1 b2' b3 b4
 have HB2:=hid hB2
 have HG1:=hid (And.intro g1 (And.intro g2 (And.intro g3 g4)))
 have c0:=P2.c0
 have c1:=P2.c1
 have c2:=P2.c2
 have c3:=P2.c3
 have HP2:=hid P2
 clear P2 hB2 g1 g2 g3 g4
 go_wp2_with fail
 refine still_tail 16 (by kernel_rfl) (by kernel_rfl) ?_
 simp only [List.take_succ_cons,List.take_zero,List.drop_succ_cons,List.drop_zero]
 repeat still_step
 refine wpStill_nil ?_
 go_wp2_with fail
 refine (diff_reg le tA tB HP2.out.drew.ra HP2.out.drew.rb HP2.out.drew.re HP2.out.sae HP2.out.sbe HF.out.2.2.1 HF.out.2.2.2 (by omega) HN.out.hla (Nat.le_refl _) HL.out.1 (.inl rfl) ?_ ?_).mono ?_
 ·rw [HN.out.va,HN.out.vb,Nat.mul_comm A,Nat.mul_comm B];exact HX.out.2.2.1
 ·rw [HN.out.va,HN.out.vb,Nat.mul_comm A,Nat.mul_comm B,← HX.out.2.2.2.1];exact Nat.lt_trans HX.out.2.2.2.2.1 (Nat.lt_of_le_of_lt (Nat.le_trans HX.out.2.2.2.2.2 HL.out.2.2) HL.out.2.1)
 rintro e w' ⟨kk,q2,ds2,rfl,rfl,g1,g2,g3,g4⟩
 rw [HN.out.va,HN.out.vb,Nat.mul_comm A,Nat.mul_comm B,← HX.out.2.2.2.1] at g4
 have P3:=HP2.out.drew.putE (q:=q2) (ds:=ds2) (by rw [g1];exact HN.out.hla) g2
 have hB3:=HB2.out.drew.trans (below_putL (B:=B0) W2.drew q2 _ oe ds2 P3.lR)
 obtain ⟨W3,hW3⟩:∃ W3,putL W2.drew q2 R oe ds2=W3:=⟨_,rfl⟩
 rw [hW3] at P3 hB3 ⊢
 clear hW3 c0 c1 c2 c3 k0 k1' k2 k3
 have HB3:=hid hB3
 have HG2:=hid (And.intro g1 (And.intro g2 (And.intro g3 g4)))
 have c0:=P3.c0
 have c1:=P3.c1
 have c2:=P3.c2
 have c3:=P3.c3
 have f0:=P3.f0
 have f1:=P3.f1
 have f2:=P3.f2
 have f3:=P3.f3
 have HP3:=hid P3
 clear P3 hB3 g1 g2 g3 g4
 go_wp2_with fail
 go_region
 all_goals (go_wp2_with fail)
 go_end0
 refine ⟨oc,oe,oa,ob,k1,kk,la,lb,_,_,za,zb,rfl,HP3.out.turn4.drew,⟨Nat.le_trans HG1.out.2.2.1.1 (by rw [HG1.out.1];exact HN.out.hla),Nat.le_trans HG2.out.2.2.1.1 (by rw [HG2.out.1];exact HN.out.hla),?_,?_,?_,?_,Nat.le_of_lt HX.out.2.2.2.2.1⟩,((((HB3.out.setCell lD _).setCell lD _).setCell lD _).setCell lD _).drew⟩
 ·rw [List.take_append_of_le_length HG1.out.2.2.1.1];exact HG1.out.2.2.1.trimmed
 ·rw [List.take_append_of_le_length HG2.out.2.2.1.1];exact HG2.out.2.2.1.trimmed
 ·rw [List.take_append_of_le_length HG1.out.2.2.1.1,HG1.out.2.2.1.val];exact HG1.out.2.2.2
 ·rw [List.take_append_of_le_length HG2.out.2.2.1.1,HG2.out.2.2.1.val];exact HG2.out.2.2.2
theorem follow_even (B0 D R n oa ob oc oe la lb lc le A B fA fB tA tB a2 b2:Nat) (za zb zc ze:List Nat) (w:World) (h:Desc B0 w D R n oa ob oc oe la lb lc le za zb zc ze) (hN:Nums n la lb za zb A B) (hn:n≤137438953472)
  (h1:fA<B64) (h2:fB<B64) (h3:tA<B64) (h4:tB<B64) (h5:fB*B≤fA*A) (h6:a2=fA*A - fB*B) (h7:tA*A≤tB*B) (h8:b2=tB*B - tA*A) (h9:b2<a2) (h10:a2≤B) :
  Calls Tryz.prog 221 #[.pointer (some ⟨D,0,none⟩),.agg #[.int .u64 fA,.int .u64 fB,.int .u64 tA,.int .u64 tB,.bool false]] w (RetDesc B0 w D R n a2 b2):=by
 have hle:=hN.len h.ra.l h.rb.l h.ra.d
 have hAlt:A<B64 ^ la:=by
  have:=val_lt (h.ra.d.take la)
  rw [hN.va,List.length_take,h.ra.l,Nat.min_eq_left hN.hla] at this
  exact this
 have hAB:=hN.le
 have hb:=(Below.refl w.heap.size w).alloc (Nat.le_refl _) (.cells #[.int .u64 (fA:Int),.int .u64 (fB:Int),.int .u64 (tA:Int),.int .u64 (tB:Int),.bool false] 234)
 have h':=h.below hb
 have HB:=hid hb
 have hne:¬ w.heap.size=D:=by have:=h.uD;omega
 have bx:C5 (w.alloc (.cells #[.int .u64 (fA:Int),.int .u64 (fB:Int),.int .u64 (tA:Int),.int .u64 (tB:Int),.bool false] 234)) w.heap.size (.int .u64 (fA:Int)) (.int .u64 (fB:Int)) (.int .u64 (tA:Int)) (.int .u64 (tB:Int)) (.bool false):=by
  refine ⟨?_,?_,?_,?_,?_⟩ <;> go_simp
 have hnb:w.heap.size≠R:=by have:=h.uR;omega
 have HX:=hid (And.intro h5 (And.intro h6 (And.intro h7 (And.intro h8 (And.intro h9 h10)))))
 have HF:=hid (And.intro h1 (And.intro h2 (And.intro h3 h4)))
 have HL:=hid (And.intro hle (And.intro hAlt hAB))
 have HN:=hid hN
 have lD:=h.lD
 have uD0:=hid h.uD
 clear h hN hb hle hAlt hAB h1 h2 h3 h4 h5 h6 h7 h8 h9 h10
 go_enter Tryz.func221,Tryz.ntmps221
 go_wp2_with fail
 obtain ⟨W1,hW1⟩:∃ W1,w.alloc (.cells #[.int .u64 (fA:Int),.int .u64 (fB:Int),.int .u64 (tA:Int),.int .u64 (tB:Int),.bool false] 234)=W1:=⟨_,rfl⟩
 rw [hW1] at HB h' bx ⊢
 have c0:=h'.c0
 have c1:=h'.c1
 have c2:=h'.c2
 have c3:=h'.c3
 obtain ⟨b0,b1,b2',b3,b4⟩:=bx
 have HH:=hid h'
 clear h' hW1
 refine still_tail 16 (by kernel_rfl) (by kernel_rfl) ?_
 simp only [List.take_succ_cons,List.take_zero,List.drop_succ_cons,List.drop_zero]
 repeat still_step
 refine wpStill_nil ?_
 go_wp2_with fail
 refine (diff_reg lc fA fB HH.out.drew.ra HH.out.drew.rb HH.out.drew.rc HH.out.sac HH.out.sbc HF.out.1 HF.out.2.1 (by omega) HN.out.hla (Nat.le_refl _) HL.out.1 (.inl rfl) ?_ ?_).mono ?_
 ·rw [HN.out.va,HN.out.vb,Nat.mul_comm A,Nat.mul_comm B];exact HX.out.1
 ·rw [HN.out.va,HN.out.vb,Nat.mul_comm A,Nat.mul_comm B,← HX.out.2.1];exact Nat.lt_of_le_of_lt (Nat.le_trans HX.out.2.2.2.2.2 HL.out.2.2) HL.out.2.1
 rintro e w' ⟨k1,q1,ds1,rfl,rfl,g1,g2,g3,g4⟩
 rw [HN.out.va,HN.out.vb,Nat.mul_comm A,Nat.mul_comm B,← HX.out.2.1] at g4
 have P2:=HH.out.drew.putC (q:=q1) (ds:=ds1) (by rw [g1];exact HN.out.hla) g2
 have hB2:=((HB.out.mono (Nat.le_of_lt (Nat.lt_of_le_of_lt lD uD0.out))).drew).trans (below_putL (B:=B0) W1.drew q1 _ oc ds1 P2.lR)
 have k0:=(cell_putL_other W1.drew q1 R oc ds1 ⟨w.heap.size,0,none⟩ (.inl hnb)).trans b0
 have k1':=(cell_putL_other W1.drew q1 R oc ds1 ⟨w.heap.size,1,none⟩ (.inl hnb)).trans b1
 have k2:=(cell_putL_other W1.drew q1 R oc ds1 ⟨w.heap.size,2,none⟩ (.inl hnb)).trans b2'
 have k3:=(cell_putL_other W1.drew q1 R oc ds1 ⟨w.heap.size,3,none⟩ (.inl hnb)).trans b3
 obtain ⟨W2,hW2⟩:∃ W2,putL W1.drew q1 R oc ds1=W2:=⟨_,rfl⟩
 rw [hW2] at P2 hB2 k0 k1' k2 k3 ⊢
 clear hW2 c0 c1 c2 c3 b0 b1 b2' b3 b4
 have HB2:=hid hB2
 have HG1:=hid (And.intro g1 (And.intro g2 (And.intro g3 g4)))
 have c0:=P2.c0
 have c1:=P2.c1
 have c2:=P2.c2
 have c3:=P2.c3
 have HP2:=hid P2
 clear P2 hB2 g1 g2 g3 g4
 go_wp2_with fail
 refine still_tail 16 (by kernel_rfl) (by kernel_rfl) ?_
 simp only [List.take_succ_cons,List.take_zero,List.drop_succ_cons,List.drop_zero]
 repeat still_step
 refine wpStill_nil ?_
 go_wp2_with fail
 refine (diff_reg le tB tA HP2.out.drew.rb HP2.out.drew.ra HP2.out.drew.re HP2.out.sbe HP2.out.sae HF.out.2.2.2 HF.out.2.2.1 (by omega) HN.out.hla HL.out.1 (Nat.le_refl _) (.inr rfl) ?_ ?_).mono ?_
 ·rw [HN.out.va,HN.out.vb,Nat.mul_comm A,Nat.mul_comm B];exact HX.out.2.2.1
 ·rw [HN.out.va,HN.out.vb,Nat.mul_comm A,Nat.mul_comm B,← HX.out.2.2.2.1];exact Nat.lt_trans HX.out.2.2.2.2.1 (Nat.lt_of_le_of_lt (Nat.le_trans HX.out.2.2.2.2.2 HL.out.2.2) HL.out.2.1)
 rintro e w' ⟨kk,q2,ds2,rfl,rfl,g1,g2,g3,g4⟩
 rw [HN.out.va,HN.out.vb,Nat.mul_comm A,Nat.mul_comm B,← HX.out.2.2.2.1] at g4
 have P3:=HP2.out.drew.putE (q:=q2) (ds:=ds2) (by rw [g1];exact HN.out.hla) g2
 have hB3:=HB2.out.drew.trans (below_putL (B:=B0) W2.drew q2 _ oe ds2 P3.lR)
 obtain ⟨W3,hW3⟩:∃ W3,putL W2.drew q2 R oe ds2=W3:=⟨_,rfl⟩
 rw [hW3] at P3 hB3 ⊢
 clear hW3 c0 c1 c2 c3 k0 k1' k2 k3
 have HB3:=hid hB3
 have HG2:=hid (And.intro g1 (And.intro g2 (And.intro g3 g4)))
 have c0:=P3.c0
 have c1:=P3.c1
 have c2:=P3.c2
 have c3:=P3.c3
 have f0:=P3.f0
 have f1:=P3.f1
 have f2:=P3.f2
 have f3:=P3.f3
 have HP3:=hid P3
 clear P3 hB3 g1 g2 g3 g4
 go_wp2_with fail
 go_region
 all_goals (go_wp2_with fail)
 go_end0
 refine ⟨oc,oe,oa,ob,k1,kk,la,lb,_,_,za,zb,rfl,HP3.out.turn4.drew,⟨Nat.le_trans HG1.out.2.2.1.1 (by rw [HG1.out.1];exact HN.out.hla),Nat.le_trans HG2.out.2.2.1.1 (by rw [HG2.out.1];exact HN.out.hla),?_,?_,?_,?_,Nat.le_of_lt HX.out.2.2.2.2.1⟩,((((HB3.out.setCell lD _).setCell lD _).setCell lD _).setCell lD _).drew⟩
 ·rw [List.take_append_of_le_length HG1.out.2.2.1.1];exact HG1.out.2.2.1.trimmed
 ·rw [List.take_append_of_le_length HG2.out.2.2.1.1];exact HG2.out.2.2.1.trimmed
 ·rw [List.take_append_of_le_length HG1.out.2.2.1.1,HG1.out.2.2.1.val];exact HG1.out.2.2.2
 ·rw [List.take_append_of_le_length HG2.out.2.2.1.1,HG2.out.2.2.1.val];exact HG2.out.2.2.2
theorem follow_calls (B0 D R n oa ob oc oe la lb lc le A B fA fB tA tB:Nat) (od:Bool) (za zb zc ze:List Nat) (w:World) (h:Desc B0 w D R n oa ob oc oe la lb lc le za zb zc ze) (hN:Nums n la lb za zb A B) (hn:n≤137438953472)
  (hs:SimOut A B fA fB tA tB od) (hf:fB≠0) :
  ∃ a2 b2:Nat,b2<B∧Nat.gcd a2 b2=Nat.gcd A B∧Calls Tryz.prog 221 #[.pointer (some ⟨D,0,none⟩),.agg #[.int .u64 fA,.int .u64 fB,.int .u64 tA,.int .u64 tB,.bool od]] w (RetDesc B0 w D R n a2 b2):=by
 obtain ⟨h1,h2,h3,h4,h5⟩:=hs
 obtain ⟨a2,b2,k1,k2,k3,k4⟩:=h5 hf
 refine ⟨a2,b2,by omega,k3,?_⟩
 cases od
 ·rw [if_neg (by simp)] at k4
  obtain ⟨m1,m2,m3,m4⟩:=k4
  exact follow_even B0 D R n oa ob oc oe la lb lc le A B fA fB tA tB a2 b2 za zb zc ze w h hN hn h1 h2 h3 h4 m1 m2 m3 m4 k1 k2
 ·rw [if_pos rfl] at k4
  obtain ⟨m1,m2,m3,m4⟩:=k4
  exact follow_odd B0 D R n oa ob oc oe la lb lc le A B fA fB tA tB a2 b2 za zb zc ze w h hN hn h1 h2 h3 h4 m1 m2 m3 m4 k1 k2
end Go.Proofs.YtnmlkobogofadaaGreatDoor
namespace Go.Proofs.YtnmlkobogofadaaGreatDoor
theorem amgm (u v m:Nat) (h:u+v≤2*m):u*v≤m*m:=by
 have h1:(u+v)*(u+v)≤(2*m)*(2*m):=Nat.mul_le_mul h h
 have h2:4*(u*v)≤(u+v)*(u+v):=by
  rcases Nat.le_total u v with hh | hh
  ·obtain ⟨d,rfl⟩:=Nat.exists_eq_add_of_le hh
   have:(u+(u+d))*(u+(u+d))=4*(u*(u+d))+d*d:=by grind
   omega
  ·obtain ⟨d,rfl⟩:=Nat.exists_eq_add_of_le hh
   have:(v+d+v)*(v+d+v)=4*((v+d)*v)+d*d:=by grind
   omega
 have h3:(2*m)*(2*m)=4*(m*m):=by grind
 omega
theorem newton_ge (a x:Nat) (hx:1≤x):a<((a / x+x) / 2+1)*((a / x+x) / 2+1):=by
 have h1:a<(a / x+1)*x:=by
  rw [Nat.add_mul,Nat.one_mul]
  exact Nat.lt_div_mul_add hx
 have h2:=amgm (a / x+1) x ((a / x+x) / 2+1) (by omega)
 omega
theorem newton_stop (a x:Nat) (hx:1≤x) (h:x≤(a / x+x) / 2):x*x≤a:=by
 have h1:x≤a / x:=by omega
 rw [Nat.le_div_iff_mul_le hx] at h1
 exact h1
theorem newton_pos (a x:Nat) (ha:1≤a) (hx:1≤x) (_h:(a / x+x) / 2<x):1≤(a / x+x) / 2:=by
 rcases Nat.lt_or_ge a x with h | h
 ·have:a / x=0:=Nat.div_eq_of_lt h
  omega
 ·have:1≤a / x:=by rw [Nat.le_div_iff_mul_le hx];omega
  omega
theorem root_unique (a r s:Nat) (h1:r*r≤a) (h2:a<(r+1)*(r+1)) (h3:s*s≤a) (h4:a<(s+1)*(s+1)):r=s:=by
 rcases Nat.lt_trichotomy r s with h | h | h
 ·have:=Nat.mul_le_mul (show r+1≤s from h) (show r+1≤s from h)
  omega
 ·exact h
 ·have:=Nat.mul_le_mul (show s+1≤r from h) (show s+1≤r from h)
  omega
theorem gcd_two_pow_odd (a m k:Nat) (ha:a % 2=1):Nat.gcd a (2 ^ k*m)=Nat.gcd a m:=by
 induction k with
 | zero=>simp
 | succ k ih =>
  rw [Nat.pow_succ,Nat.mul_comm (2 ^ k) 2,Nat.mul_assoc,Nat.Coprime.gcd_mul_left_cancel_right]
  ·exact ih
  ·rw [Nat.Coprime,Nat.gcd_rec,ha,Nat.gcd_one_left]
theorem gcd_freed (i j m n:Nat) (hm:m % 2=1) (hn:n % 2=1):Nat.gcd (2 ^ i*m) (2 ^ j*n)=2 ^ (min i j)*Nat.gcd m n:=by
 rcases Nat.le_total i j with h | h
 ·obtain ⟨d,rfl⟩:=Nat.exists_eq_add_of_le h
  rw [Nat.min_eq_left h,Nat.pow_add,Nat.mul_assoc,Nat.gcd_mul_left,gcd_two_pow_odd m n d hm]
 ·obtain ⟨d,rfl⟩:=Nat.exists_eq_add_of_le h
  rw [Nat.min_eq_right h,Nat.pow_add,Nat.mul_assoc,Nat.gcd_mul_left,Nat.gcd_comm,gcd_two_pow_odd n m d hn,Nat.gcd_comm]
theorem gcd_sub_odd (a b:Nat) (h:a≤b):Nat.gcd a (b - a)=Nat.gcd a b:=by
 rw [Nat.gcd_sub_self_right h]
end Go.Proofs.YtnmlkobogofadaaGreatDoor
