/- What the proof rests on, part 28. -/
import Derived.Test.YthalajpklaodkaaGreatDoorP27
namespace Go.Proofs.YthalajpklaodkaaGreatDoor
set_option maxRecDepth 100000
set_option maxHeartbeats 80000000
namespace Z4
open Go.RowKit Go.Sort
attribute [local go_sem] takes fP fO fM
theorem IU (z d:Int) (hd:d≠0) (v1 v2:Value) (w:World) (h1:IsZ w v1 z) (h2:IsZ w v2 d) (N:Nat) (hN:N≤34359738368) (ka:z.natAbs<B4 ^ N) (kb:d.natAbs<B4 ^ N):Calls Tryz.prog 92 #[v1,v2] w (nS w ((z:Rat) / (d:Rat))):=by
 rcases Int.lt_or_le d 0 with h0 | h0
 ·obtain ⟨m,rfl⟩:∃ m:Nat,d = -(m:Int):=⟨d.natAbs,by omega⟩
  have:=Va z m (by omega) v1 v2 w h1 h2 N hN ka (by rwa [Int.natAbs_neg,Int.natAbs_natCast] at kb)
  rw [show (z:Rat) / ((-(m:Int):Int):Rat)=mkRat (-z) m from ?_]
  ·exact this
  ·rw [← Rat.divInt_eq_div,← Rat.divInt_ofNat,Rat.divInt_eq_divInt_iff (by omega) (by omega)]
   grind
 ·obtain ⟨m,rfl⟩:∃ m:Nat,d=(m:Int):=⟨d.natAbs,by omega⟩
  have:=Vb z m (by omega) v1 v2 w h1 h2 N hN ka (by rwa [Int.natAbs_natCast] at kb)
  rw [show (z:Rat) / (((m:Int):Int):Rat)=mkRat z m from ?_]
  ·exact this
  ·rw [← Rat.divInt_eq_div,← Rat.divInt_ofNat]
theorem TB (r s:Rat):((r.num*s.num:Int):Rat) / (((r.den:Int)*(s.den:Int):Int):Rat)=r*s:=by
 rw [← Rat.divInt_eq_div,← Int.natCast_mul,Rat.divInt_ofNat,← Rat.mkRat_mul_mkRat,Rat.mkRat_self,Rat.mkRat_self]
theorem IsR.open {W:World} {v:Value} {r:Rat} (h:IsR W v r):∃ (t:Bool) (p:Option Addr) (l k:Nat) (p':Option Addr) (l' k':Nat),v=.agg #[.bool t,.slice p l k,.bool false,.slice p' l' k']:=by
 obtain ⟨t,p,l,k,p',l',k',e,-⟩:=h
 exact ⟨t,p,l,k,p',l',k',e⟩
theorem IsR.setBox {W:World} {v:Value} {r:Rat} {b i:Nat} {T:TypeId} {vs:List Value} {u:Value} (h:IsR W v r) (hb:Bx W b T vs) (ok:eY vs=true):IsR (W.setCell ⟨b,i,none⟩ u) v r:=by
 obtain ⟨t,p,l,k,p',l',k',e,h1,h2⟩:=h
 exact ⟨t,p,l,k,p',l',k',e,h1.setBox hb ok,h2.setBox hb ok⟩
theorem IsR.num {W:World} {t b:Bool} {p p':Option Addr} {l k l' k':Nat} {r:Rat} (h:IsR W (.agg #[.bool t,.slice p l k,.bool b,.slice p' l' k']) r):IsZ W (.agg #[.bool t,.slice p l k]) r.num:=by
 obtain ⟨t2,p2,l2,k2,p3,l3,k3,e,h1,h2⟩:=h
 injection e with e
 have e0:Value.bool t=Value.bool t2:=by have:=congrArg (fun a:Array Value=>a[0]!) e;simpa using this
 have e1:Value.slice p l k=Value.slice p2 l2 k2:=by have:=congrArg (fun a:Array Value=>a[1]!) e;simpa using this
 rw [e0,e1]
 exact h1
theorem IsR.d {W:World} {t b:Bool} {p p':Option Addr} {l k l' k':Nat} {r:Rat} (h:IsR W (.agg #[.bool t,.slice p l k,.bool b,.slice p' l' k']) r):IsZ W (.agg #[.bool b,.slice p' l' k']) (r.den:Int):=by
 obtain ⟨t2,p2,l2,k2,p3,l3,k3,e,h1,h2⟩:=h
 injection e with e
 have e0:Value.bool b=Value.bool false:=by have:=congrArg (fun a:Array Value=>a[2]!) e;simpa using this
 have e1:Value.slice p' l' k' = Value.slice p3 l3 k3:=by have:=congrArg (fun a:Array Value=>a[3]!) e;simpa using this
 rw [e0,e1]
 exact h2
theorem IsR.mk2 {W:World} {t:Bool} {p p':Option Addr} {l k l' k':Nat} {r:Rat} (h1:IsZ W (.agg #[.bool t,.slice p l k]) r.num) (h2:IsZ W (.agg #[.bool false,.slice p' l' k']) (r.den:Int)):IsR W (.agg #[.bool t,.slice p l k,.bool false,.slice p' l' k']) r:=⟨_,_,_,_,_,_,_,rfl,h1,h2⟩
theorem Dt (n d:Int) (h1:-9223372036854775808≤n) (h2:n≤9223372036854775807) (h3:-9223372036854775808≤d) (h4:d≤9223372036854775807) (hd:d≠0) (w:World):Calls Tryz.prog 14 #[.int .i64 n,.int .i64 d] w (nS w ((n:Rat) / (d:Rat))):=by
 have HN:=hid (fun (W:World)=>nG n h1 h2 W)
 have HD:=hid (fun (W:World)=>nG d h3 h4 W)
 have h5:B4 ^ 5=100000000000000000000:=by decide
 have HQ:=hid (fun (W:World) (v1 v2:Value) (a:IsZ W v1 n) (b:IsZ W v2 d)=>IU n d hd v1 v2 W a b 5 (by omega) (by rw [h5];omega) (by rw [h5];omega))
 obtain ⟨R,hR⟩:∃ R,(n:Rat) / (d:Rat)=R:=⟨_,rfl⟩
 rw [hR] at HQ ⊢
 clear h1 h2 h3 h4 hd hR h5
 go_enter Tryz.func14,Tryz.ntmps14
 go_wp2_with fail
 have hS0:=hid ((St.start w).alloc' (w.heap.size) (by simp) 37 [.bool false,.slice none 0 0,.bool false,.slice none 0 0])
 obtain ⟨W0,hW0⟩:=aN hS0
 rw [hW0] at hS0 ⊢
 clear hW0
 refine (HN.out _).mono ?_
 rintro e w1 hret
 obtain ⟨v1,rfl,hz1,hB⟩:=hret.z
 clear hret
 obtain ⟨t1,p1,l1,k1,rfl⟩:=hz1.open
 have hS1:=hid (hS0.out.call hB)
 clear hB
 clear hS0
 have hS2:=hid (hS1.out.fact (.z (.agg #[.bool t1,.slice p1 l1 k1]) n) hz1)
 clear hS1 hz1
 go_wp2_with fail
 refine (HD.out _).mono ?_
 rintro e w2 hret
 obtain ⟨v2,rfl,hz2,hB⟩:=hret.z
 clear hret
 obtain ⟨t2,p2,l2,k2,rfl⟩:=hz2.open
 have hS3:=hid (hS2.out.call hB)
 clear hB
 clear hS2
 have hS4:=hid (hS3.out.fact (.z (.agg #[.bool t2,.slice p2 l2 k2]) d) hz2)
 clear hS3 hz2
 go_wp2_with fail
 refine (HQ.out _ _ _ (hS4.out.get (f:=.z (.agg #[.bool t1,.slice p1 l1 k1]) n) 1 rfl) (hS4.out.get (f:=.z (.agg #[.bool t2,.slice p2 l2 k2]) d) 0 rfl)).mono ?_
 rintro e w3 ⟨v3,rfl,hr,hB⟩
 have hS5:=hid (hS4.out.call hB)
 clear hB
 clear hS4
 obtain ⟨t9,p9,l9,k9,r9,s9,u9,rfl⟩:=hr.open
 have hn:=hr.num
 have hd:=hr.d
 clear hr
 have hS6:=hid (hS5.out.fact (.z (.agg #[.bool t9,.slice p9 l9 k9]) R.num) hn)
 clear hS5 hn
 have hS7:=hid (hS6.out.fact (.z (.agg #[.bool false,.slice r9 s9 u9]) (R.den:Int)) hd)
 clear hS6 hd
 obtain ⟨⟨cR0,cR1,cR2,cR3⟩,fR0,fR1,fR2,fR3⟩:=hS7.out.f4 0 w.heap.size 37 (.bool false) (.slice none 0 0) (.bool false) (.slice none 0 0) rfl
 have hS8:=hid ((((((hS7.out).store (b:=⟨w.heap.size,37,[.bool false,.slice none 0 0,.bool false,.slice none 0 0]⟩) 0 0 (.bool t9) rfl rfl).store (b:=⟨w.heap.size,37,[.bool t9,.slice none 0 0,.bool false,.slice none 0 0]⟩) 0 1 (.slice p9 l9 k9) rfl rfl).store (b:=⟨w.heap.size,37,[.bool t9,.slice p9 l9 k9,.bool false,.slice none 0 0]⟩) 0 2 (.bool false) rfl rfl).store (b:=⟨w.heap.size,37,[.bool t9,.slice p9 l9 k9,.bool false,.slice none 0 0]⟩) 0 3 (.slice r9 s9 u9) rfl rfl).as [⟨w.heap.size,37,[.bool t9,.slice p9 l9 k9,.bool false,.slice r9 s9 u9]⟩] rfl)
 go_wp2_with fail
 clear cR0 cR1 cR2 cR3 fR0 fR1 fR2 fR3
 obtain ⟨⟨zR0,zR1,zR2,zR3⟩,-⟩:=hS8.out.f4 0 w.heap.size 37 (.bool t9) (.slice p9 l9 k9) (.bool false) (.slice r9 s9 u9) rfl
 exact bodyPost_ret (v:=.agg #[.bool t9,.slice p9 l9 k9,.bool false,.slice r9 s9 u9]) (by simp [results,Tryz.results14,go_sem,zR0,zR1,zR2,zR3]) rfl ⟨_,rfl,.mk2 (hS8.out.get (f:=.z (.agg #[.bool t9,.slice p9 l9 k9]) R.num) 1 rfl) (hS8.out.get (f:=.z (.agg #[.bool false,.slice r9 s9 u9]) (R.den:Int)) 0 rfl),hS8.out.bel⟩
theorem I7 (r s:Rat) (v1 v2:Value) (w:World) (h1:IsR w v1 r) (h2:IsR w v2 s) (N:Nat) (hN:N≤17179869184) (ka:r.num.natAbs<B4 ^ N) (kb:s.num.natAbs<B4 ^ N) (kc:r.den<B4 ^ N) (kd:s.den<B4 ^ N):Calls Tryz.prog 25 #[v1,v2] w (nS w (r*s)):=by
 obtain ⟨t1,p1,l1,k1,r1,s1,u1,rfl⟩:=h1.open
 obtain ⟨t2,p2,l2,k2,r2,s2,u2,rfl⟩:=h2.open
 have hlt:∀ {x y:Nat},x<B4 ^ N→y<B4 ^ N→x*y<B4 ^ (N+N):=fun {x y} hx hy=>by
  rw [Nat.pow_add]
  exact Nat.mul_lt_mul'' hx hy
 have HM:=hid (fun (W:World) (a:IsZ W (.agg #[.bool t1,.slice p1 l1 k1]) r.num) (b:IsZ W (.agg #[.bool t2,.slice p2 l2 k2]) s.num)=>Kw _ _ _ _ W a b N (by omega) ka kb)
 have HE:=hid (fun (W:World) (v1 v2:Value) (a:IsZ W v1 (r.den:Int)) (b:IsZ W v2 (s.den:Int))=>Kw _ _ _ _ W a b N (by omega) (by rw [Int.natAbs_natCast];exact kc) (by rw [Int.natAbs_natCast];exact kd))
 have HQ:=hid (fun (W:World) (v1 v2:Value) (a:IsZ W v1 (r.num*s.num)) (b:IsZ W v2 ((r.den:Int)*(s.den:Int)))=>IU _ _ (by have:=r.den_pos;have:=s.den_pos;exact Int.ne_of_gt (Int.mul_pos (by omega) (by omega))) v1 v2 W a b (N+N) (by omega) (by rw [Int.natAbs_mul];exact hlt ka kb) (by rw [← Int.natCast_mul,Int.natAbs_natCast];exact hlt kc kd))
 rw [TB] at HQ
 have HA:=hid h1
 have HB:=hid h2
 obtain ⟨R,hR⟩:∃ R,r*s=R:=⟨_,rfl⟩
 rw [hR] at HQ ⊢
 clear h1 h2 ka kb kc kd hlt hN hR
 go_enter Tryz.func25,Tryz.ntmps25
 go_wp2_with fail
 have hS0:=hid ((((St.start w).alloc' (w.heap.size) (by simp) 37 [.bool t1,.slice p1 l1 k1,.bool false,.slice r1 s1 u1]).alloc' (w.heap.size+1) (by simp) 37 [.bool t2,.slice p2 l2 k2,.bool false,.slice r2 s2 u2]).alloc' (w.heap.size+1+1) (by simp) 37 [.bool false,.slice none 0 0,.bool false,.slice none 0 0])
 obtain ⟨W0,hW0⟩:=aN hS0
 rw [hW0] at hS0 ⊢
 clear hW0
 have LM0:=hid (fun (W:World) (h:Below W0.heap.size W0 W)=>((hS0.out.call h).f4 2 w.heap.size 37 (.bool t1) (.slice p1 l1 k1) (.bool false) (.slice r1 s1 u1) rfl).1)
 have LM1:=hid (fun (W:World) (h:Below W0.heap.size W0 W)=>((hS0.out.call h).f4 1 (w.heap.size+1) 37 (.bool t2) (.slice p2 l2 k2) (.bool false) (.slice r2 s2 u2) rfl).1)
 refine gU 11 [⟨[],[0]⟩,⟨[0],[1]⟩,⟨[],[2]⟩,⟨[2],[3]⟩,⟨[1,3],[4]⟩,⟨[],[5]⟩,⟨[5],[6]⟩,⟨[],[7]⟩,⟨[7],[8]⟩,⟨[6,8],[9]⟩,⟨[4,9],[10]⟩]
  [oE (.pointer (some ⟨w.heap.size,0,none⟩)),oE (.agg #[.bool t1,.slice p1 l1 k1]),oE (.pointer (some ⟨w.heap.size+1,0,none⟩)),oE (.agg #[.bool t2,.slice p2 l2 k2]),one fun v W=>IsZ W v (r.num*s.num),oE (.agg #[.bool t1,.slice p1 l1 k1,.bool false,.slice r1 s1 u1]),one fun v W=>IsZ W v ((r.den:Int)),oE (.agg #[.bool t2,.slice p2 l2 k2,.bool false,.slice r2 s2 u2]),one fun v W=>IsZ W v ((s.den:Int)),one fun v W=>IsZ W v ((r.den:Int)*(s.den:Int)),one fun v W=>IsR W v R]
  (fun _ W=>Below W0.heap.size W0 W) (by kernel_rfl) (by kernel_rfl) ?hTW1 ?hZW1 ?hOW1 ?hEW1
 case hZW1=>exact (Below.refl _ _).drew
 case hTW1 =>
  simp only [List.forall_mem_cons,List.not_mem_nil,false_imp_iff,implies_true,and_true]
  exact ⟨bE,bE,bE,bE,aK oV,bE,aK oV,bE,aK oV,aK oV,aK (fun v W W' hb h=>IsR.below h hb)⟩
 case hOW1 =>
  intro u
  simp only [List.take_succ_cons,List.take_zero,aG]
  repeat' (first | with_reducible exact dQ | with_reducible refine dP ?_ ?_)
  ·intro W hS hF K hK
   go_simp
   exact hK _ _ (.refl _ _) hS rfl
  ·intro W hS hF K hK
   have h0:u 0=.pointer (some ⟨w.heap.size,0,none⟩):=hF.1
   have hcA:=LM0.out W hS
   clear hF
   go_simp
   exact hK _ _ (.refl _ _) hS rfl
  ·intro W hS hF K hK
   go_simp
   exact hK _ _ (.refl _ _) hS rfl
  ·intro W hS hF K hK
   have h2:u 2=.pointer (some ⟨w.heap.size+1,0,none⟩):=hF.1
   have hcB:=LM1.out W hS
   clear hF
   go_simp
   exact hK _ _ (.refl _ _) hS rfl
  ·intro W hS hF K hK
   have h1:u 1=.agg #[.bool t1,.slice p1 l1 k1]:=hF.1
   have h3:u 3=.agg #[.bool t2,.slice p2 l2 k2]:=hF.2.1
   have sH:=hid (hS0.out.call hS)
   clear hF
   go_simp
   refine (HM.out _ (HA.out.below sH.out.bel).num (HB.out.below sH.out.bel).num).mono ?_
   rintro e wA ⟨v,rfl,hv,hBA⟩
   exact ⟨_,rfl,hK _ _ hBA (hS.trans (hBA.mono hS.size)) hv⟩
  ·intro W hS hF K hK
   have hcA:=LM0.out W hS
   go_simp
   exact hK _ _ (.refl _ _) hS rfl
  ·intro W hS hF K hK
   have h5:u 5=.agg #[.bool t1,.slice p1 l1 k1,.bool false,.slice r1 s1 u1]:=hF.1
   have sH:=hid (hS0.out.call hS)
   clear hF
   go_simp
   refine (FB _ _ _ (HA.out.below sH.out.bel)).mono ?_
   rintro e wA ⟨v,rfl,hv,hBA⟩
   exact ⟨_,rfl,hK _ _ hBA (hS.trans (hBA.mono hS.size)) hv⟩
  ·intro W hS hF K hK
   have hcB:=LM1.out W hS
   go_simp
   exact hK _ _ (.refl _ _) hS rfl
  ·intro W hS hF K hK
   have h7:u 7=.agg #[.bool t2,.slice p2 l2 k2,.bool false,.slice r2 s2 u2]:=hF.1
   have sH:=hid (hS0.out.call hS)
   clear hF
   go_simp
   refine (FB _ _ _ (HB.out.below sH.out.bel)).mono ?_
   rintro e wA ⟨v,rfl,hv,hBA⟩
   exact ⟨_,rfl,hK _ _ hBA (hS.trans (hBA.mono hS.size)) hv⟩
  ·intro W hS hF K hK
   have hq6:IsZ W (u 6) ((r.den:Int)):=hF.1
   have hq8:IsZ W (u 8) ((s.den:Int)):=hF.2.1
   clear hF
   go_simp
   refine (HE.out _ _ _ hq6 hq8).mono ?_
   rintro e wA ⟨v,rfl,hv,hBA⟩
   exact ⟨_,rfl,hK _ _ hBA (hS.trans (hBA.mono hS.size)) hv⟩
  ·intro W hS hF K hK
   have hq4:IsZ W (u 4) (r.num*s.num):=hF.1
   have hq9:IsZ W (u 9) ((r.den:Int)*(s.den:Int)):=hF.2.1
   clear hF
   go_simp
   refine (HQ.out _ _ _ hq4 hq9).mono ?_
   rintro e wA ⟨v,rfl,hv,hBA⟩
   exact ⟨_,rfl,hK _ _ hBA (hS.trans (hBA.mono hS.size)) hv⟩
 case hEW1 =>
  intro u W1 hS hF
  have hS1:=hid (hS0.out.call hS)
  have hr0:IsR W1 (u 10) R:=hF.2.2.2.2.2.2.2.2.2.2.1
  clear hF hS
  obtain ⟨t9,p9,l9,k9,r9,s9,u9,e9⟩:=hr0.open
  have hr:IsR W1 (.agg #[.bool t9,.slice p9 l9 k9,.bool false,.slice r9 s9 u9]) R:=e9 ▸ hr0
  have hn:=hr.num
  have hd:=hr.d
  clear hr hr0
  have hS2:=hid (hS1.out.fact (.z (.agg #[.bool t9,.slice p9 l9 k9]) R.num) hn)
  clear hS1 hn
  have hS3:=hid (hS2.out.fact (.z (.agg #[.bool false,.slice r9 s9 u9]) (R.den:Int)) hd)
  clear hS2 hd
  obtain ⟨⟨cR0,cR1,cR2,cR3⟩,fR0,fR1,fR2,fR3⟩:=hS3.out.f4 0 (w.heap.size+1+1) 37 (.bool false) (.slice none 0 0) (.bool false) (.slice none 0 0) rfl
  simp only [List.take_succ_cons,List.take_zero,aG,List.drop_succ_cons,List.drop_zero]
  have hS4:=hid ((((((hS3.out).store (b:=⟨w.heap.size+1+1,37,[.bool false,.slice none 0 0,.bool false,.slice none 0 0]⟩) 0 0 (.bool t9) rfl rfl).store (b:=⟨w.heap.size+1+1,37,[.bool t9,.slice none 0 0,.bool false,.slice none 0 0]⟩) 0 1 (.slice p9 l9 k9) rfl rfl).store (b:=⟨w.heap.size+1+1,37,[.bool t9,.slice p9 l9 k9,.bool false,.slice none 0 0]⟩) 0 2 (.bool false) rfl rfl).store (b:=⟨w.heap.size+1+1,37,[.bool t9,.slice p9 l9 k9,.bool false,.slice none 0 0]⟩) 0 3 (.slice r9 s9 u9) rfl rfl).as [⟨w.heap.size+1+1,37,[.bool t9,.slice p9 l9 k9,.bool false,.slice r9 s9 u9]⟩,⟨w.heap.size+1,37,[.bool t2,.slice p2 l2 k2,.bool false,.slice r2 s2 u2]⟩,⟨w.heap.size,37,[.bool t1,.slice p1 l1 k1,.bool false,.slice r1 s1 u1]⟩] rfl)
  go_wp2_with fail
  clear cR0 cR1 cR2 cR3 fR0 fR1 fR2 fR3
  obtain ⟨⟨zR0,zR1,zR2,zR3⟩,-⟩:=hS4.out.f4 0 (w.heap.size+1+1) 37 (.bool t9) (.slice p9 l9 k9) (.bool false) (.slice r9 s9 u9) rfl
  exact bodyPost_ret (v:=.agg #[.bool t9,.slice p9 l9 k9,.bool false,.slice r9 s9 u9]) (by simp [results,Tryz.results25,go_sem,zR0,zR1,zR2,zR3]) rfl ⟨_,rfl,.mk2 (hS4.out.get (f:=.z (.agg #[.bool t9,.slice p9 l9 k9]) R.num) 1 rfl) (hS4.out.get (f:=.z (.agg #[.bool false,.slice r9 s9 u9]) (R.den:Int)) 0 rfl),hS4.out.bel⟩
end Z4
end Go.Proofs.YthalajpklaodkaaGreatDoor
