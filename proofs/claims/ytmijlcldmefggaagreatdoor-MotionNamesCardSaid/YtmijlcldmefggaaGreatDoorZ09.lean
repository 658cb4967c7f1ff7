/- What the proof rests on, part 9. -/
import Derived.Test.YtmijlcldmefggaaGreatDoorZ08
import Derived.Test.YtmijlcldmefggaaGreatDoorZ03
namespace Go.Proofs.YtmijlcldmefggaaGreatDoor
set_option maxRecDepth 100000
set_option maxHeartbeats 80000000
section
open Go.RowKit Go.Sort
theorem Desc.start {B0:Nat} {W:World} {D R N M qa qb:Nat} {xs ys:List Nat} (hz:HoldsL W R 0 (List.replicate (4*N) 0)) (lD:B0≤D) (lR:B0≤R) (uD:D<W.heap.size) (uR:R<W.heap.size) (ne:D≠R)
  (c0:W.cell? ⟨D,0,none⟩=some (.slice (some ⟨R,0,none⟩) N N)) (c1:W.cell? ⟨D,1,none⟩=some (.slice (some ⟨R,N,none⟩) M N)) (c2:W.cell? ⟨D,2,none⟩=some (.slice (some ⟨R,2*N,none⟩) N N)) (c3:W.cell? ⟨D,3,none⟩=some (.slice (some ⟨R,3*N,none⟩) N N))
  (f0:W.frozen? ⟨D,0,none⟩=false) (f1:W.frozen? ⟨D,1,none⟩=false) (f2:W.frozen? ⟨D,2,none⟩=false) (f3:W.frozen? ⟨D,3,none⟩=false)
  (hx:xs.length=N) (hy:ys.length=M) (hM:M≤N) (dx:Dig xs) (dy:Dig ys) :
  Desc B0 (putL (putL W qa R 0 xs) qb R N ys) D R N 0 N (2*N) (3*N) N M N N xs (ys ++ List.replicate (N - M) 0) (List.replicate N 0) (List.replicate N 0):=by
 have reg:∀ k,k≤3→Reg W R (k*N) N (List.replicate N 0):=fun k hk=>by
  have hkN:k*N≤3*N:=Nat.mul_le_mul_right _ hk
  have h1:=(hz.drop (k*N)).take N
  rw [Nat.zero_add,List.drop_replicate,List.take_replicate,Nat.min_eq_left (by omega)] at h1
  exact ⟨h1,by simp,fun d hd=>by rw [(List.mem_replicate.1 hd).2];exact B64_pos⟩
 have r0:=reg 0 (by omega)
 have r1:=reg 1 (by omega)
 have r2:=reg 2 (by omega)
 have r3:=reg 3 (by omega)
 rw [Nat.zero_mul] at r0
 rw [Nat.one_mul] at r1
 have a0:=r0.own (q:=qa) (ds:=xs) (by omega) dx
 rw [List.drop_of_length_le (by simp;omega),List.append_nil] at a0
 have a1:=(r1.put (q:=qa) (o':=0) (ds:=xs) (by omega) (by omega)).own (q:=qb) (ds:=ys) (by omega) dy
 rw [List.drop_replicate,hy] at a1
 have e:∀ k,(putL (putL W qa R 0 xs) qb R N ys).cell? ⟨D,k,none⟩=W.cell? ⟨D,k,none⟩:=fun k=>by
  rw [cell_putL_other _ _ _ _ _ _ (.inl ne),cell_putL_other _ _ _ _ _ _ (.inl ne)]
 have f:∀ k,(putL (putL W qa R 0 xs) qb R N ys).frozen? ⟨D,k,none⟩=W.frozen? ⟨D,k,none⟩:=fun k=>by
  rw [frozen_putL,frozen_putL]
 refine ⟨lD,lR,by simpa using uD,by simpa using uR,ne,(e 0).trans c0,(e 1).trans c1,(e 2).trans c2,(e 3).trans c3,(f 0).trans f0,(f 1).trans f1,(f 2).trans f2,(f 3).trans f3,?_,a1,?_,?_,by omega,by omega,by omega,by omega,by omega,by omega⟩
 ·exact a0.put (by omega) (by omega)
 ·exact (r2.put (by omega) (by omega)).put (by omega) (by omega)
 ·exact (r3.put (by omega) (by omega)).put (by omega) (by omega)
def GcdR (B0:Nat) (w:World) (D R n G:Nat) (k:Nat) (wr:World):Prop:=
 ∃ (oa ob oc oe la lb lc le A:Nat) (za zb zc ze:List Nat),Desc B0 wr D R n oa ob oc oe la lb lc le za zb zc ze∧Nums n la lb za zb A k∧Nat.gcd A k=G∧Below B0 w wr
theorem room_run (R N k h m:Nat) (K H M:Int) (hK:K=k) (hH:H=h) (hM:M=m) (h1:k≤h) (h2:h≤m) (h3:m≤4*N) (h4:k<m) (w:World) :
  (Instr.slice 26 (.slice (some ⟨R,0,none⟩) (4*N) (4*N)) (some (.int .i64 K)) (some (.int .i64 H)) (some (.int .i64 M))).run Tryz.prog w=.ok (.slice (some ⟨R,k,none⟩) (h - k) (m - k)) w:=by
 subst hK hH hM
 have:=sliceLhm_run R 0 (4*N) (4*N) k h m h1 h2 h3 h4 w
 rwa [Nat.zero_add] at this
theorem copyF_run (ty:TypeId) (w:World) (b o n cp b2 o2 m cp2:Nat) (xs ys:List Nat) (hx:HoldsL w b o xs) (hy:Digs w b2 o2 ys) (hn:xs.length=n) (hm:ys.length=m) (he:m=n) :
  (Builtin.copy_ #[26,26] ty #[.slice (some ⟨b,o,none⟩) n cp,.slice (some ⟨b2,o2,none⟩) m cp2]).run Tryz.prog w=.ok (goInt m) (putL w 0 b o ys):=by
 have:=copyN_run ty w b o n cp b2 o2 cp2 xs ys hx hy hn (by omega)
 rw [List.drop_of_length_le (by omega),List.append_nil,hm] at this
 exact this
theorem RetDigits.one {w W:World} {g n:Nat} (q:Nat) (t:TypeId) (hg:g<B64) (h0:0<g) (hn:g=n) (hB:Below w.heap.size w W):RetDigits w n (.returned (.slice (some ⟨W.heap.size,0,none⟩) 1 1)) ((W.drewN q).alloc (.cells #[.int .u64 (g:Int)] t)):=by
 refine RetDigits.mk (ds:=[g]) (by simp) (fun d hd=>by simp at hd;rw [hd];exact hg) ⟨by simp,fun j hj=>?_,.inr ?_⟩ (by rw [← hn];simp [val]) (fun j hj=>?_) ?_
 ·rw [List.getElem?_eq_none (by simpa using hj)];rfl
 ·simp;omega
 ·obtain rfl:j=0:=by simpa using hj
  rw [Nat.add_zero]
  exact World.cell?_alloc_at (w:=W.drewN q) _ _ _ _ rfl
 ·exact (hB.trans (below_drewN _ q)).alloc (by simpa using hB.size) _
theorem natGcd_ge (b o cp b2 o2 cp2 N M:Nat) (xs ys:List Nat) (w:World) (hx:Digs w b o xs) (hy:Digs w b2 o2 ys) (hb:b<w.heap.size) (hb2:b2<w.heap.size) (dx:Dig xs) (dy:Dig ys) (tx:Trimmed xs) (ty:Trimmed ys)
  (hlx:xs.length=N) (hly:ys.length=M) (hN:N≤68719476736) (hM2:2≤M) (hle:val ys≤val xs) (hT:Tab w) :
  Calls Tryz.prog 105 #[.slice (some ⟨b,o,none⟩) N cp,.slice (some ⟨b2,o2,none⟩) M cp2] w (RetDigits w (Nat.gcd (val xs) (val ys))):=by
 have hMN:M≤N:=by
  rcases Nat.lt_or_ge N M with h | h
  ·have:=val_lt_of_length (xs:=xs) (ys:=ys) dx ty (by omega);omega
  ·exact h
 have HC:=hid (cmp_callsN N M b o cp b2 o2 cp2 xs ys w hx hy dx dy tx ty (by omega) hlx hly)
 have HV:Hid (0≤cmpN (val xs) (val ys)):=by
  show 0≤_
  rcases Nat.lt_or_ge (val ys) (val xs) with h | h
  ·rw [cmpN_gt h];omega
  ·rw [show val xs=val ys by omega,cmpN_eq];omega
 obtain ⟨cc,hcc⟩:∃ c,cmpN (val xs) (val ys)=c:=⟨_,rfl⟩
 rw [hcc] at HC HV
 have hcf:decide (cc<0)=false:=by have h:0≤cc:=HV.out;simp;omega
 have hmk:=makeN_run (4*N) (by omega)
 rw [show ((4*N:Nat):Int)=4*(N:Int) from by omega] at hmk
 have HX:=hid (And.intro hx (And.intro hb (And.intro dx (And.intro tx hlx))))
 have HY:=hid (And.intro hy (And.intro hb2 (And.intro dy (And.intro ty hly))))
 have HLE:=hid hle
 have HT:=hid hT
 clear hx hy hb hb2 dx dy tx ty hlx hly hle hT hcc HV
 go_enter Tryz.func105,Tryz.ntmps105
 go_wp2_with fail
 refine HC.out.mono ?_
 rintro e w' ⟨rfl,q,rfl⟩
 clear HC
 go_wp2_with fail
 have hR0:HoldsL (allocZ (w.drewN q) (4*N)) w.heap.size 0 (List.replicate (4*N) 0):=holdsL_allocZ (w.drewN q) (4*N)
 have hB0:=(below_drewN (B:=w.heap.size) w q).trans (below_allocZ (w.drewN q) (4*N))
 have hsz:(allocZ (w.drewN q) (4*N)).heap.size=w.heap.size+1:=size_allocZ (w.drewN q) (4*N)
 obtain ⟨R,hR⟩:∃ R,w.heap.size=R:=⟨_,rfl⟩
 obtain ⟨W0,hW0⟩:∃ W0,allocZ (w.drewN q) (4*N)=W0:=⟨_,rfl⟩
 rw [hW0] at hR0 hB0 hsz ⊢
 rw [hR] at hR0 hsz ⊢
 have hs1:=room_run R N 0 N N 0 (N:Int) (N:Int) rfl rfl rfl (Nat.zero_le _) (Nat.le_refl _) (by omega) (by omega)
 have hs2:=room_run R N N (N+M) (2*N) (N:Int) ((N:Int)+M) (2*(N:Int)) rfl (by omega) (by omega) (by omega) (by omega) (by omega) (by omega)
 have hs3:=room_run R N (2*N) (3*N) (3*N) (2*(N:Int)) (3*(N:Int)) (3*(N:Int)) (by omega) (by omega) (by omega) (by omega) (Nat.le_refl _) (by omega) (by omega)
 have hs4:=room_run R N (3*N) (4*N) (4*N) (3*(N:Int)) (4*(N:Int)) (4*(N:Int)) (by omega) (by omega) (by omega) (by omega) (Nat.le_refl _) (Nat.le_refl _) (by omega)
 rw [Nat.sub_zero] at hs1
 rw [show N+M - N=M by omega,show 2*N - N=N by omega] at hs2
 rw [show 3*N - 2*N=N by omega] at hs3
 rw [show 4*N - 3*N=N by omega] at hs4
 have HB0:=hid hB0
 obtain ⟨D,hD⟩:∃ D,W0.heap.size=D:=⟨_,rfl⟩
 have hb1:Below W0.heap.size W0 (W0.alloc (.cells #[Value.slice (some ⟨R,0,none⟩) N N,Value.slice (some ⟨R,N,none⟩) M N,Value.slice (some ⟨R,2*N,none⟩) N N,Value.slice (some ⟨R,3*N,none⟩) N N] 238)).drew:=((Below.refl _ _).alloc (Nat.le_refl _) _).drew
 have hz1:=hR0.below hb1 (by omega)
 have hx1:=HX.out.1.below (hB0.trans (hb1.mono (by omega))) HX.out.2.1
 have hy1:=HY.out.1.below (hB0.trans (hb1.mono (by omega))) HY.out.2.1
 have hD1:W0.heap.size<(W0.alloc (.cells #[Value.slice (some ⟨R,0,none⟩) N N,Value.slice (some ⟨R,N,none⟩) M N,Value.slice (some ⟨R,2*N,none⟩) N N,Value.slice (some ⟨R,3*N,none⟩) N N] 238)).drew.heap.size:=by simp [World.drew]
 have hc:∀ k v,(#[Value.slice (some ⟨R,0,none⟩) N N,Value.slice (some ⟨R,N,none⟩) M N,Value.slice (some ⟨R,2*N,none⟩) N N,Value.slice (some ⟨R,3*N,none⟩) N N]:Array Value)[k]? = some v →
   (W0.alloc (.cells #[Value.slice (some ⟨R,0,none⟩) N N,Value.slice (some ⟨R,N,none⟩) M N,Value.slice (some ⟨R,2*N,none⟩) N N,Value.slice (some ⟨R,3*N,none⟩) N N] 238)).drew.cell? ⟨W0.heap.size,k,none⟩=some v ∧
   (W0.alloc (.cells #[Value.slice (some ⟨R,0,none⟩) N N,Value.slice (some ⟨R,N,none⟩) M N,Value.slice (some ⟨R,2*N,none⟩) N N,Value.slice (some ⟨R,3*N,none⟩) N N] 238)).drew.frozen? ⟨W0.heap.size,k,none⟩=false:=fun k v hv =>
  ⟨(World.cell?_alloc_at _ _ _ _ rfl).trans hv,World.frozen?_alloc_at _ _ _ _ rfl⟩
 obtain ⟨d0,e0⟩:=hc 0 _ rfl
 obtain ⟨d1,e1⟩:=hc 1 _ rfl
 obtain ⟨d2,e2⟩:=hc 2 _ rfl
 obtain ⟨d3,e3⟩:=hc 3 _ rfl
 clear hc
 obtain ⟨W1,hW1⟩:∃ W1,(W0.alloc (.cells #[Value.slice (some ⟨R,0,none⟩) N N,Value.slice (some ⟨R,N,none⟩) M N,Value.slice (some ⟨R,2*N,none⟩) N N,Value.slice (some ⟨R,3*N,none⟩) N N] 238)).drew=W1:=⟨_,rfl⟩
 rw [hW1] at hb1 hz1 hx1 hy1 hD1 d0 e0 d1 e1 d2 e2 d3 e3
 have hne:D≠R:=by omega
 have hxl:=HX.out.2.2.2.2
 have hyl:=HY.out.2.2.2.2
 have hDs:=Desc.start (B0:=w.heap.size) (D:=W0.heap.size) (R:=R) (qa:=0) (qb:=0) hz1 (by omega) (by omega) hD1 (by omega) (by omega) d0 d1 d2 d3 e0 e1 e2 e3 hxl hyl hMN HX.out.2.2.1 HY.out.2.2.1
 have hNs:Nums N N M xs (ys ++ List.replicate (N - M) 0) (val xs) (val ys):=by
  refine ⟨Nat.le_refl _,hMN,?_,?_,?_,?_,HLE.out⟩
  ·rw [List.take_of_length_le (by omega)];exact HX.out.2.2.2.1
  ·rw [← hyl,List.take_left];exact HY.out.2.2.2.1
  ·rw [List.take_of_length_le (by omega)]
  ·rw [← hyl,List.take_left]
 have hp1:=copyF_run 3 W1 R 0 N N b o N cp (List.replicate N 0) xs (by have:=hz1.take N;rw [List.take_replicate,Nat.min_eq_left (by omega)] at this;exact this) hx1 (by simp) hxl rfl
 have hz2:HoldsL (putL W1 0 R 0 xs) R N (List.replicate M 0):=by
  have h1:=(hz1.drop N).take M
  rw [Nat.zero_add,List.drop_replicate,List.take_replicate,Nat.min_eq_left (by omega)] at h1
  exact h1.putL (by right;right;omega)
 have hp2:=copyF_run 3 (putL W1 0 R 0 xs) R N M N b2 o2 M cp2 (List.replicate M 0) ys hz2 (hy1.putL (by left;have:=HY.out.2.1;omega)) (by simp) hyl rfl
 have hB3:Below w.heap.size w (putL (putL W1 0 R 0 xs) 0 R N ys):=((hB0.trans (hb1.mono (by omega))).trans (below_putL _ _ _ _ _ (by omega))).trans (below_putL _ _ _ _ _ (by omega))
 have k1:(putL W1 0 R 0 xs).cell? ⟨W0.heap.size,1,none⟩=some (.slice (some ⟨R,N,none⟩) M N):=(cell_putL_other _ _ _ _ _ _ (.inl (by simp only;omega))).trans d1
 obtain ⟨W2,hW2⟩:∃ W2,putL W1 0 R 0 xs=W2:=⟨_,rfl⟩
 rw [hW2] at hp1 hp2 hDs hB3 k1
 obtain ⟨W3,hW3⟩:∃ W3,putL W2 0 R N ys=W3:=⟨_,rfl⟩
 rw [hW3] at hp2 hDs hB3
 rw [hD] at d0 k1 hDs
 have HDs:=hid hDs
 have HNs:=hid hNs
 have HB3:=hid hB3
 have HW1:=hid hW1
 have HD:=hid hD
 clear hDs hNs hB3 hW1 hW2 hW3 hb1 hz1 hz2 hx1 hy1 hD1 d1 d2 d3 e0 e1 e2 e3 hxl hyl hR0 hB0 hsz hR hW0 hD
 go_region
 rw [HW1.out,HD.out]
 go_wp2_with fail
 obtain ⟨G,hG⟩:∃ G,Nat.gcd (val xs) (val ys)=G:=⟨_,rfl⟩
 have HG:=hid hG
 rw [hG]
 clear hG hs1 hs2 hs3 hs4 hp1 hp2 d0 k1 hmk
 go_loopg [8] (val ys) (fun k _ wr=>GcdR w.heap.size w D R N G k wr)
 case atStart=>exact ⟨_,_,_,_,_,_,_,_,_,_,_,_,_,HDs.out,HNs.out,HG.out,HB3.out⟩
 case round =>
  obtain ⟨oa,ob,oc,oe,la,lb,lc,le,A,za,zb,zc,ze,hd,hn,hg,hB⟩:=hrel
  have c0:=hd.c0
  have c1:=hd.c1
  have hlab:=hn.len hd.ra.l hd.rb.l hd.ra.d
  have HD':=hid hd
  have HN':=hid hn
  have HG':=hid hg
  have HB':=hid hB
  have HPOS:Hid (1≤lb→0<gk):=hid (fun h=>by
   have e:=val_pos_of_trimmed hn.tb (by intro e;have:=congrArg List.length e;rw [List.length_take,hd.rb.l,Nat.min_eq_left hn.hlb] at this;simp at this;omega)
   rw [hn.vb] at e;exact e)
  by_cases h2:1<lb
  ·have t1:decide (1<(lb:Int))=true:=by simp;omega
   obtain ⟨m,rfl⟩:∃ m,la=m+2:=⟨la - 2,by omega⟩
   have hS:=hid (simulate_calls D R oa N R ob N m lb (za.take (m+2)) (zb.take lb) wr hd.uD hd.c0 hd.c1 hd.uR hd.uR (hd.ra.h.take _).digs (hd.rb.h.take _).digs (hd.ra.d.take _) (hd.rb.d.take _) hn.ta (by rw [List.length_take,hd.ra.l];exact Nat.min_eq_left hn.hla) (by rw [List.length_take,hd.rb.l];exact Nat.min_eq_left hn.hlb) (by omega) (by have:=hn.hla;omega) (by rw [hn.va,hn.vb];exact hn.le))
   clear hd hn hg hB
   go_wp2_with fail
   refine hS.out.mono ?_
   rintro e w' ⟨fA,fB,tA,tB,od,rfl,hso,hBs⟩
   have hBs2:=hBs.trans (((Below.refl w'.heap.size w').alloc (Nat.le_refl _) (.cells #[Value.int .u64 fA,Value.int .u64 fB,Value.int .u64 tA,Value.int .u64 tB,Value.bool od] 240)).mono hBs.size)
   have HD2:=hid (HD'.out.below hBs2)
   have HB2:=hid (HB'.out.trans (hBs2.mono HB'.out.size))
   rw [HN'.out.va,HN'.out.vb] at hso
   have HSO:=hid hso
   by_cases hf:fB=0
   ·subst hf
    clear hso hBs hBs2
    go_wp2_with fail
    refine (ddivide_calls w.heap.size D R N oa ob oc oe (m+2) lb lc le A gk za zb zc ze _ HD2.out HN'.out (by omega) (by omega)).mono ?_
    rintro e w2 ⟨oa',ob',oc',oe',la',lb',lc',le',za',zb',zc',ze',rfl,hD2,hN2,hB2⟩
    have HR2:=hid (And.intro hD2 (And.intro hN2 hB2))
    clear hD2 hN2 hB2
    go_wp2_with fail
    go_roundg (A % gk)
    case measure=>exact Nat.mod_lt _ (HPOS.out (by omega))
    case rel=>exact ⟨_,_,_,_,_,_,_,_,_,_,_,_,_,HR2.out.1,HR2.out.2.1,by rw [← HG'.out,Nat.gcd_comm,← Nat.gcd_rec,Nat.gcd_comm],HB2.out.trans HR2.out.2.2⟩
   ·have tf:((fB:Int) == 0)=false:=by rw [beq_eq_false_iff_ne];omega
    obtain ⟨a2,b2,m1,m2,m3⟩:=follow_calls w.heap.size D R N oa ob oc oe (m+2) lb lc le A gk fA fB tA tB od za zb zc ze _ HD2.out HN'.out (by omega) HSO.out hf
    have HF:=hid m3
    clear m3 hso hBs hBs2
    go_wp2_with fail
    refine HF.out.mono ?_
    rintro e w2 ⟨oa',ob',oc',oe',la',lb',lc',le',za',zb',zc',ze',rfl,hD2,hN2,hB2⟩
    have HR2:=hid (And.intro hD2 (And.intro hN2 hB2))
    clear hD2 hN2 hB2
    go_wp2_with fail
    go_roundg b2
    case measure=>exact m1
    case rel=>exact ⟨_,_,_,_,_,_,_,_,_,_,_,_,_,HR2.out.1,HR2.out.2.1,by rw [← HG'.out,m2],HB2.out.trans HR2.out.2.2⟩
  ·have t1:decide (1<(lb:Int))=false:=by simp;omega
   rcases Nat.eq_zero_or_pos lb with h0 | h0
   ·subst h0
    clear h2
    have hk0:gk=0:=by have:=hn.vb;rw [List.take_zero] at this;exact this.symm
    subst hk0
    have hl:(za.take la).length=la:=by rw [List.length_take,hd.ra.l];exact Nat.min_eq_left hn.hla
    have hdg:=(hd.ra.h.take la).digs
    clear hd hn hg hB
    go_wp2_with fail
    refine (trim_callsN la R oa N (za.take la) _ hdg ?_ ?_ hl).mono ?_
    ·have:=HN'.out.hla;omega
    ·have:=HN'.out.hla;omega
    rintro e w' ⟨k,rfl,ht,rfl⟩
    have HTT:=hid ht
    have HDG:=hid hdg
    clear ht hdg hl
    go_wp2_with fail
    go_ret
    refine RetDigits.mk HD'.out.uR (HD'.out.ra.d.take la) HTT.out ?_ HDG.out HB'.out
    have hAG:=HG'.out
    rw [Nat.gcd_zero_right] at hAG
    rw [HN'.out.va]
    first | exact hAG | exact hAG.trans HG.out.symm
   ·obtain rfl:lb=1:=by omega
    clear h2 h0
    obtain ⟨y,hzb⟩:∃ y,zb.take 1=[y]:=List.length_eq_one_iff.1 (by rw [List.length_take,hd.rb.l];omega)
    have hy:y=gk:=by have:=hn.vb;rw [hzb] at this;simpa [val] using this
    subst hy
    have hyB:y<B64:=hd.rb.d.take 1 y (by rw [hzb];simp)
    have hcy:wr.cell? ⟨R,ob,none⟩=some (.int .u64 (y:Int)):=by
     have:=((hd.rb.h.take 1) 0 (by rw [hzb];simp)).1
     rw [hzb,Nat.add_zero] at this
     exact this
    have hl:(za.take la).length=la:=by rw [List.length_take,hd.ra.l];exact Nat.min_eq_left hn.hla
    have hMW:=hid (fun (q:Nat)=>modWord_calls la y R oa N (za.take la) (wr.drewN q) (HPOS.out (by omega)) hyB (hd.drewN q |>.ra.h.take la).digs (hd.ra.d.take la) (by rw [hl];have:=hn.hla;omega) hl)
    rw [hn.va] at hMW
    have hWG:=fun (h:A % y≠0) (q:Nat)=>wordGcd_calls (A % y) y (wr.drewN q) (Nat.lt_trans (Nat.mod_lt A (HPOS.out (by omega))) hyB) hyB h (by have:=HPOS.out (by omega);omega) ((HT.out.below hB (Nat.le_refl _)).below (below_drewN (B:=wr.heap.size) wr q) (Nat.le_refl _))
    have hgG:Nat.gcd (A % y) y=G:=by rw [← hg,Nat.gcd_comm A y];exact (Nat.gcd_rec y A).symm
    have hY:=hid hyB
    obtain ⟨r,hr⟩:∃ r,A % y=r:=⟨_,rfl⟩
    rw [hr] at hMW hWG hgG
    have HWG:=hid hWG
    have HgG:=hid hgG
    clear hd hn hg hB hzb hyB hl hr hWG hgG HX HY HLE
    by_cases hr0:r=0
    ·subst hr0
     have tr:(((0:Nat):Int) == 0)=true:=rfl
     go_wp2_with fail
     go_quiet ((go_at_call 103;exact Calls.quiet_of (hMW.out _)))
     go_wp2_with fail
     go_ret
     first | exact RetDigits.one _ _ hY.out (HPOS.out (Nat.le_refl _)) (by have:=HgG.out;rw [Nat.gcd_zero_left] at this;first | exact this | exact this.trans HG.out.symm) HB'.out
    ·have tr:((r:Int) == 0)=false:=by rw [beq_eq_false_iff_ne];omega
     go_wp2_with fail
     go_quiet ((go_at_call 103;exact Calls.quiet_of (hMW.out _)))
     go_wp2_with fail
     refine (HWG.out hr0 _).mono ?_
     rintro e w' ⟨rfl,rfl⟩
     go_wp2_with fail
     go_ret
     exact RetDigits.one _ _ (Nat.lt_of_le_of_lt (Nat.gcd_le_right _ (HPOS.out (Nat.le_refl _))) hY.out) (Nat.gcd_pos_of_pos_right _ (HPOS.out (Nat.le_refl _))) (by have:=HgG.out;first | exact this | exact this.trans HG.out.symm) HB'.out
theorem natGcd_lt (b o cp b2 o2 cp2 N M:Nat) (xs ys:List Nat) (w:World) (hx:Digs w b o xs) (hy:Digs w b2 o2 ys) (hb:b<w.heap.size) (hb2:b2<w.heap.size) (dx:Dig xs) (dy:Dig ys) (tx:Trimmed xs) (ty:Trimmed ys)
  (hlx:xs.length=N) (hly:ys.length=M) (hN:N≤68719476736) (hM2:2≤M) (hlt:val ys<val xs) (hT:Tab w) :
  Calls Tryz.prog 105 #[.slice (some ⟨b2,o2,none⟩) M cp2,.slice (some ⟨b,o,none⟩) N cp] w (RetDigits w (Nat.gcd (val xs) (val ys))):=by
 have hle:val ys≤val xs:=Nat.le_of_lt hlt
 have hMN:M≤N:=by
  rcases Nat.lt_or_ge N M with h | h
  ·have:=val_lt_of_length (xs:=xs) (ys:=ys) dx ty (by omega);omega
  ·exact h
 have HC:=hid (cmp_callsN M N b2 o2 cp2 b o cp ys xs w hy hx dy dx ty tx (by omega) hly hlx)
 have HV:Hid (cmpN (val ys) (val xs)<0):=by
  show _<0
  rw [cmpN_lt hlt];omega
 obtain ⟨cc,hcc⟩:∃ c,cmpN (val ys) (val xs)=c:=⟨_,rfl⟩
 rw [hcc] at HC HV
 have hcf:decide (cc<0)=true:=by have h:cc<0:=HV.out;simp;omega
 have hmk:=makeN_run (4*N) (by omega)
 rw [show ((4*N:Nat):Int)=4*(N:Int) from by omega] at hmk
 have HX:=hid (And.intro hx (And.intro hb (And.intro dx (And.intro tx hlx))))
 have HY:=hid (And.intro hy (And.intro hb2 (And.intro dy (And.intro ty hly))))
 have HLE:=hid hle
 have HT:=hid hT
 clear hx hy hb hb2 dx dy tx ty hlx hly hle hlt hT hcc HV
 go_enter Tryz.func105,Tryz.ntmps105
 go_wp2_with fail
 refine HC.out.mono ?_
 rintro e w' ⟨rfl,q,rfl⟩
 clear HC
 go_wp2_with fail
 have hR0:HoldsL (allocZ (w.drewN q) (4*N)) w.heap.size 0 (List.replicate (4*N) 0):=holdsL_allocZ (w.drewN q) (4*N)
 have hB0:=(below_drewN (B:=w.heap.size) w q).trans (below_allocZ (w.drewN q) (4*N))
 have hsz:(allocZ (w.drewN q) (4*N)).heap.size=w.heap.size+1:=size_allocZ (w.drewN q) (4*N)
 obtain ⟨R,hR⟩:∃ R,w.heap.size=R:=⟨_,rfl⟩
 obtain ⟨W0,hW0⟩:∃ W0,allocZ (w.drewN q) (4*N)=W0:=⟨_,rfl⟩
 rw [hW0] at hR0 hB0 hsz ⊢
 rw [hR] at hR0 hsz ⊢
 have hs1:=room_run R N 0 N N 0 (N:Int) (N:Int) rfl rfl rfl (Nat.zero_le _) (Nat.le_refl _) (by omega) (by omega)
 have hs2:=room_run R N N (N+M) (2*N) (N:Int) ((N:Int)+M) (2*(N:Int)) rfl (by omega) (by omega) (by omega) (by omega) (by omega) (by omega)
 have hs3:=room_run R N (2*N) (3*N) (3*N) (2*(N:Int)) (3*(N:Int)) (3*(N:Int)) (by omega) (by omega) (by omega) (by omega) (Nat.le_refl _) (by omega) (by omega)
 have hs4:=room_run R N (3*N) (4*N) (4*N) (3*(N:Int)) (4*(N:Int)) (4*(N:Int)) (by omega) (by omega) (by omega) (by omega) (Nat.le_refl _) (Nat.le_refl _) (by omega)
 rw [Nat.sub_zero] at hs1
 rw [show N+M - N=M by omega,show 2*N - N=N by omega] at hs2
 rw [show 3*N - 2*N=N by omega] at hs3
 rw [show 4*N - 3*N=N by omega] at hs4
 have HB0:=hid hB0
 obtain ⟨D,hD⟩:∃ D,W0.heap.size=D:=⟨_,rfl⟩
 have hb1:Below W0.heap.size W0 (W0.alloc (.cells #[Value.slice (some ⟨R,0,none⟩) N N,Value.slice (some ⟨R,N,none⟩) M N,Value.slice (some ⟨R,2*N,none⟩) N N,Value.slice (some ⟨R,3*N,none⟩) N N] 238)).drew:=((Below.refl _ _).alloc (Nat.le_refl _) _).drew
 have hz1:=hR0.below hb1 (by omega)
 have hx1:=HX.out.1.below (hB0.trans (hb1.mono (by omega))) HX.out.2.1
 have hy1:=HY.out.1.below (hB0.trans (hb1.mono (by omega))) HY.out.2.1
 have hD1:W0.heap.size<(W0.alloc (.cells #[Value.slice (some ⟨R,0,none⟩) N N,Value.slice (some ⟨R,N,none⟩) M N,Value.slice (some ⟨R,2*N,none⟩) N N,Value.slice (some ⟨R,3*N,none⟩) N N] 238)).drew.heap.size:=by simp [World.drew]
 have hc:∀ k v,(#[Value.slice (some ⟨R,0,none⟩) N N,Value.slice (some ⟨R,N,none⟩) M N,Value.slice (some ⟨R,2*N,none⟩) N N,Value.slice (some ⟨R,3*N,none⟩) N N]:Array Value)[k]? = some v →
   (W0.alloc (.cells #[Value.slice (some ⟨R,0,none⟩) N N,Value.slice (some ⟨R,N,none⟩) M N,Value.slice (some ⟨R,2*N,none⟩) N N,Value.slice (some ⟨R,3*N,none⟩) N N] 238)).drew.cell? ⟨W0.heap.size,k,none⟩=some v ∧
   (W0.alloc (.cells #[Value.slice (some ⟨R,0,none⟩) N N,Value.slice (some ⟨R,N,none⟩) M N,Value.slice (some ⟨R,2*N,none⟩) N N,Value.slice (some ⟨R,3*N,none⟩) N N] 238)).drew.frozen? ⟨W0.heap.size,k,none⟩=false:=fun k v hv =>
  ⟨(World.cell?_alloc_at _ _ _ _ rfl).trans hv,World.frozen?_alloc_at _ _ _ _ rfl⟩
 obtain ⟨d0,e0⟩:=hc 0 _ rfl
 obtain ⟨d1,e1⟩:=hc 1 _ rfl
 obtain ⟨d2,e2⟩:=hc 2 _ rfl
 obtain ⟨d3,e3⟩:=hc 3 _ rfl
 clear hc
 obtain ⟨W1,hW1⟩:∃ W1,(W0.alloc (.cells #[Value.slice (some ⟨R,0,none⟩) N N,Value.slice (some ⟨R,N,none⟩) M N,Value.slice (some ⟨R,2*N,none⟩) N N,Value.slice (some ⟨R,3*N,none⟩) N N] 238)).drew=W1:=⟨_,rfl⟩
 rw [hW1] at hb1 hz1 hx1 hy1 hD1 d0 e0 d1 e1 d2 e2 d3 e3
 have hne:D≠R:=by omega
 have hxl:=HX.out.2.2.2.2
 have hyl:=HY.out.2.2.2.2
 have hDs:=Desc.start (B0:=w.heap.size) (D:=W0.heap.size) (R:=R) (qa:=0) (qb:=0) hz1 (by omega) (by omega) hD1 (by omega) (by omega) d0 d1 d2 d3 e0 e1 e2 e3 hxl hyl hMN HX.out.2.2.1 HY.out.2.2.1
 have hNs:Nums N N M xs (ys ++ List.replicate (N - M) 0) (val xs) (val ys):=by
  refine ⟨Nat.le_refl _,hMN,?_,?_,?_,?_,HLE.out⟩
  ·rw [List.take_of_length_le (by omega)];exact HX.out.2.2.2.1
  ·rw [← hyl,List.take_left];exact HY.out.2.2.2.1
  ·rw [List.take_of_length_le (by omega)]
  ·rw [← hyl,List.take_left]
 have hp1:=copyF_run 3 W1 R 0 N N b o N cp (List.replicate N 0) xs (by have:=hz1.take N;rw [List.take_replicate,Nat.min_eq_left (by omega)] at this;exact this) hx1 (by simp) hxl rfl
 have hz2:HoldsL (putL W1 0 R 0 xs) R N (List.replicate M 0):=by
  have h1:=(hz1.drop N).take M
  rw [Nat.zero_add,List.drop_replicate,List.take_replicate,Nat.min_eq_left (by omega)] at h1
  exact h1.putL (by right;right;omega)
 have hp2:=copyF_run 3 (putL W1 0 R 0 xs) R N M N b2 o2 M cp2 (List.replicate M 0) ys hz2 (hy1.putL (by left;have:=HY.out.2.1;omega)) (by simp) hyl rfl
 have hB3:Below w.heap.size w (putL (putL W1 0 R 0 xs) 0 R N ys):=((hB0.trans (hb1.mono (by omega))).trans (below_putL _ _ _ _ _ (by omega))).trans (below_putL _ _ _ _ _ (by omega))
 have k1:(putL W1 0 R 0 xs).cell? ⟨W0.heap.size,1,none⟩=some (.slice (some ⟨R,N,none⟩) M N):=(cell_putL_other _ _ _ _ _ _ (.inl (by simp only;omega))).trans d1
 obtain ⟨W2,hW2⟩:∃ W2,putL W1 0 R 0 xs=W2:=⟨_,rfl⟩
 rw [hW2] at hp1 hp2 hDs hB3 k1
 obtain ⟨W3,hW3⟩:∃ W3,putL W2 0 R N ys=W3:=⟨_,rfl⟩
 rw [hW3] at hp2 hDs hB3
 rw [hD] at d0 k1 hDs
 have HDs:=hid hDs
 have HNs:=hid hNs
 have HB3:=hid hB3
 have HW1:=hid hW1
 have HD:=hid hD
 clear hDs hNs hB3 hW1 hW2 hW3 hb1 hz1 hz2 hx1 hy1 hD1 d1 d2 d3 e0 e1 e2 e3 hxl hyl hR0 hB0 hsz hR hW0 hD
 go_region
 rw [HW1.out,HD.out]
 go_wp2_with fail
 obtain ⟨G,hG⟩:∃ G,Nat.gcd (val xs) (val ys)=G:=⟨_,rfl⟩
 have HG:=hid hG
 rw [hG]
 clear hG hs1 hs2 hs3 hs4 hp1 hp2 d0 k1 hmk
 go_loopg [8] (val ys) (fun k _ wr=>GcdR w.heap.size w D R N G k wr)
 case atStart=>exact ⟨_,_,_,_,_,_,_,_,_,_,_,_,_,HDs.out,HNs.out,HG.out,HB3.out⟩
 case round =>
  obtain ⟨oa,ob,oc,oe,la,lb,lc,le,A,za,zb,zc,ze,hd,hn,hg,hB⟩:=hrel
  have c0:=hd.c0
  have c1:=hd.c1
  have hlab:=hn.len hd.ra.l hd.rb.l hd.ra.d
  have HD':=hid hd
  have HN':=hid hn
  have HG':=hid hg
  have HB':=hid hB
  have HPOS:Hid (1≤lb→0<gk):=hid (fun h=>by
   have e:=val_pos_of_trimmed hn.tb (by intro e;have:=congrArg List.length e;rw [List.length_take,hd.rb.l,Nat.min_eq_left hn.hlb] at this;simp at this;omega)
   rw [hn.vb] at e;exact e)
  by_cases h2:1<lb
  ·have t1:decide (1<(lb:Int))=true:=by simp;omega
   obtain ⟨m,rfl⟩:∃ m,la=m+2:=⟨la - 2,by omega⟩
   have hS:=hid (simulate_calls D R oa N R ob N m lb (za.take (m+2)) (zb.take lb) wr hd.uD hd.c0 hd.c1 hd.uR hd.uR (hd.ra.h.take _).digs (hd.rb.h.take _).digs (hd.ra.d.take _) (hd.rb.d.take _) hn.ta (by rw [List.length_take,hd.ra.l];exact Nat.min_eq_left hn.hla) (by rw [List.length_take,hd.rb.l];exact Nat.min_eq_left hn.hlb) (by omega) (by have:=hn.hla;omega) (by rw [hn.va,hn.vb];exact hn.le))
   clear hd hn hg hB
   go_wp2_with fail
   refine hS.out.mono ?_
   rintro e w' ⟨fA,fB,tA,tB,od,rfl,hso,hBs⟩
   have hBs2:=hBs.trans (((Below.refl w'.heap.size w').alloc (Nat.le_refl _) (.cells #[Value.int .u64 fA,Value.int .u64 fB,Value.int .u64 tA,Value.int .u64 tB,Value.bool od] 240)).mono hBs.size)
   have HD2:=hid (HD'.out.below hBs2)
   have HB2:=hid (HB'.out.trans (hBs2.mono HB'.out.size))
   rw [HN'.out.va,HN'.out.vb] at hso
   have HSO:=hid hso
   by_cases hf:fB=0
   ·subst hf
    clear hso hBs hBs2
    go_wp2_with fail
    refine (ddivide_calls w.heap.size D R N oa ob oc oe (m+2) lb lc le A gk za zb zc ze _ HD2.out HN'.out (by omega) (by omega)).mono ?_
    rintro e w2 ⟨oa',ob',oc',oe',la',lb',lc',le',za',zb',zc',ze',rfl,hD2,hN2,hB2⟩
    have HR2:=hid (And.intro hD2 (And.intro hN2 hB2))
    clear hD2 hN2 hB2
    go_wp2_with fail
    go_roundg (A % gk)
    case measure=>exact Nat.mod_lt _ (HPOS.out (by omega))
    case rel=>exact ⟨_,_,_,_,_,_,_,_,_,_,_,_,_,HR2.out.1,HR2.out.2.1,by rw [← HG'.out,Nat.gcd_comm,← Nat.gcd_rec,Nat.gcd_comm],HB2.out.trans HR2.out.2.2⟩
   ·have tf:((fB:Int) == 0)=false:=by rw [beq_eq_false_iff_ne];omega
    obtain ⟨a2,b2,m1,m2,m3⟩:=follow_calls w.heap.size D R N oa ob oc oe (m+2) lb lc le A gk fA fB tA tB od za zb zc ze _ HD2.out HN'.out (by omega) HSO.out hf
    have HF:=hid m3
    clear m3 hso hBs hBs2
    go_wp2_with fail
    refine HF.out.mono ?_
    rintro e w2 ⟨oa',ob',oc',oe',la',lb',lc',le',za',zb',zc',ze',rfl,hD2,hN2,hB2⟩
    have HR2:=hid (And.intro hD2 (And.intro hN2 hB2))
    clear hD2 hN2 hB2
    go_wp2_with fail
    go_roundg b2
    case measure=>exact m1
    case rel=>exact ⟨_,_,_,_,_,_,_,_,_,_,_,_,_,HR2.out.1,HR2.out.2.1,by rw [← HG'.out,m2],HB2.out.trans HR2.out.2.2⟩
  ·have t1:decide (1<(lb:Int))=false:=by simp;omega
   rcases Nat.eq_zero_or_pos lb with h0 | h0
   ·subst h0
    clear h2
    have hk0:gk=0:=by have:=hn.vb;rw [List.take_zero] at this;exact this.symm
    subst hk0
    have hl:(za.take la).length=la:=by rw [List.length_take,hd.ra.l];exact Nat.min_eq_left hn.hla
    have hdg:=(hd.ra.h.take la).digs
    clear hd hn hg hB
    go_wp2_with fail
    refine (trim_callsN la R oa N (za.take la) _ hdg ?_ ?_ hl).mono ?_
    ·have:=HN'.out.hla;omega
    ·have:=HN'.out.hla;omega
    rintro e w' ⟨k,rfl,ht,rfl⟩
    have HTT:=hid ht
    have HDG:=hid hdg
    clear ht hdg hl
    go_wp2_with fail
    go_ret
    refine RetDigits.mk HD'.out.uR (HD'.out.ra.d.take la) HTT.out ?_ HDG.out HB'.out
    have hAG:=HG'.out
    rw [Nat.gcd_zero_right] at hAG
    rw [HN'.out.va]
    first | exact hAG | exact hAG.trans HG.out.symm
   ·obtain rfl:lb=1:=by omega
    clear h2 h0
    obtain ⟨y,hzb⟩:∃ y,zb.take 1=[y]:=List.length_eq_one_iff.1 (by rw [List.length_take,hd.rb.l];omega)
    have hy:y=gk:=by have:=hn.vb;rw [hzb] at this;simpa [val] using this
    subst hy
    have hyB:y<B64:=hd.rb.d.take 1 y (by rw [hzb];simp)
    have hcy:wr.cell? ⟨R,ob,none⟩=some (.int .u64 (y:Int)):=by
     have:=((hd.rb.h.take 1) 0 (by rw [hzb];simp)).1
     rw [hzb,Nat.add_zero] at this
     exact this
    have hl:(za.take la).length=la:=by rw [List.length_take,hd.ra.l];exact Nat.min_eq_left hn.hla
    have hMW:=hid (fun (q:Nat)=>modWord_calls la y R oa N (za.take la) (wr.drewN q) (HPOS.out (by omega)) hyB (hd.drewN q |>.ra.h.take la).digs (hd.ra.d.take la) (by rw [hl];have:=hn.hla;omega) hl)
    rw [hn.va] at hMW
    have hWG:=fun (h:A % y≠0) (q:Nat)=>wordGcd_calls (A % y) y (wr.drewN q) (Nat.lt_trans (Nat.mod_lt A (HPOS.out (by omega))) hyB) hyB h (by have:=HPOS.out (by omega);omega) ((HT.out.below hB (Nat.le_refl _)).below (below_drewN (B:=wr.heap.size) wr q) (Nat.le_refl _))
    have hgG:Nat.gcd (A % y) y=G:=by rw [← hg,Nat.gcd_comm A y];exact (Nat.gcd_rec y A).symm
    have hY:=hid hyB
    obtain ⟨r,hr⟩:∃ r,A % y=r:=⟨_,rfl⟩
    rw [hr] at hMW hWG hgG
    have HWG:=hid hWG
    have HgG:=hid hgG
    clear hd hn hg hB hzb hyB hl hr hWG hgG HX HY HLE
    by_cases hr0:r=0
    ·subst hr0
     have tr:(((0:Nat):Int) == 0)=true:=rfl
     go_wp2_with fail
     go_quiet ((go_at_call 103;exact Calls.quiet_of (hMW.out _)))
     go_wp2_with fail
     go_ret
     first | exact RetDigits.one _ _ hY.out (HPOS.out (Nat.le_refl _)) (by have:=HgG.out;rw [Nat.gcd_zero_left] at this;first | exact this | exact this.trans HG.out.symm) HB'.out
    ·have tr:((r:Int) == 0)=false:=by rw [beq_eq_false_iff_ne];omega
     go_wp2_with fail
     go_quiet ((go_at_call 103;exact Calls.quiet_of (hMW.out _)))
     go_wp2_with fail
     refine (HWG.out hr0 _).mono ?_
     rintro e w' ⟨rfl,rfl⟩
     go_wp2_with fail
     go_ret
     exact RetDigits.one _ _ (Nat.lt_of_le_of_lt (Nat.gcd_le_right _ (HPOS.out (Nat.le_refl _))) hY.out) (Nat.gcd_pos_of_pos_right _ (HPOS.out (Nat.le_refl _))) (by have:=HgG.out;first | exact this | exact this.trans HG.out.symm) HB'.out
theorem natGcd_calls (b o cp b2 o2 cp2 N M:Nat) (xs ys:List Nat) (w:World) (hx:Digs w b o xs) (hy:Digs w b2 o2 ys) (hb:b<w.heap.size) (hb2:b2<w.heap.size) (dx:Dig xs) (dy:Dig ys) (tx:Trimmed xs) (ty:Trimmed ys)
  (hlx:xs.length=N) (hly:ys.length=M) (hN:N≤68719476736) (hM:M≤68719476736) (hN2:2≤N) (hM2:2≤M) (hT:Tab w) :
  Calls Tryz.prog 105 #[.slice (some ⟨b,o,none⟩) N cp,.slice (some ⟨b2,o2,none⟩) M cp2] w (RetDigits w (Nat.gcd (val xs) (val ys))):=by
 rcases Nat.lt_or_ge (val xs) (val ys) with h | h
 ·rw [Nat.gcd_comm]
  exact natGcd_lt b2 o2 cp2 b o cp M N ys xs w hy hx hb2 hb dy dx ty tx hly hlx hM hN2 h hT
 ·exact natGcd_ge b o cp b2 o2 cp2 N M xs ys w hx hy hb hb2 dx dy tx ty hlx hly hN hM2 h hT
end
end Go.Proofs.YtmijlcldmefggaaGreatDoor
