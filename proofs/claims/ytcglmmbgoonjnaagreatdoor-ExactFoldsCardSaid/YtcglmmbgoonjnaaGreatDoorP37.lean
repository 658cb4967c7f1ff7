/- What the proof rests on, part 37. -/
import Derived.Test.YtcglmmbgoonjnaaGreatDoorP36
import Derived.Test.YtcglmmbgoonjnaaGreatDoorP34
import Derived.Test.YtcglmmbgoonjnaaGreatDoorP22
import Derived.Carry
import Derived.Deep.Slices
namespace Go.Proofs.YtcglmmbgoonjnaaGreatDoor
set_option maxRecDepth 100000
set_option maxHeartbeats 80000000
namespace Rx
open Go.RowKit Go.Sort
theorem UM {L:List Rat} {j:Nat} (h:j<L.length):L.take (j+1)=L.take j ++ [L.getD j 0]:=by
 rw [List.take_add_one,List.getD,List.getElem?_eq_getElem h]
 rfl
section
variable {L:List Rat} {c:Nv} {w W:World} {j:Nat} {a:Act}
theorem Fh (hJ:LJ w W c L j a) {S:Sys} {fs:List S.F}:∃ va vb:Nv,bV true W w.heap.size (.slice va.p va.l va.c) (L.take j)∧bV false W w.heap.size (.slice vb.p vb.l vb.c) (L.take j)∧(∀ g,(Value.slice va.p va.l va.c).ownBlock=some g→(Value.slice vb.p vb.l vb.c).ownBlock≠some g) ∧
  ((∀ f∈fs,S.on (ev [c,⟨false,j,none,0,0,.empty,0⟩,va,vb]) f W)→State.Says (S:=S) ⟨bH gP (fun t=>a.tmps.getD t undef) 0,[],fs,4⟩ W (ev [c,⟨false,j,none,0,0,.empty,0⟩,va,vb]) a W):=by
 obtain ⟨va,vb,h4,h5,o1,o2,hne⟩:=hJ.own
 exact ⟨va,vb,o1,o2,hne,fun hf=>GZ hJ.sz hJ.df ⟨hJ.t0,h4,h5,hJ.t6,trivial⟩ hf⟩
theorem list_round (hlen:L.length≤30) (h:fE w w.heap.size c L) (hE:EV w) (hj:j<L.length) (hJ:LJ w W c L j a) {Q:Exit→Act→World→Prop} (hQ:∀ a' W',LJ w W' c L (j+1) a'→Q .normal a' W') :
  (liB Tryz.f59).wp Tryz.prog Q a W:=by
 have hEW:∀ W',Below W.heap.size W W'→EV W':=fun W' hb=>dM hE W' (hJ.bel.trans (hb.mono hJ.bel.size))
 obtain ⟨va,vb,o1,o2,hne,hsays⟩:=Fh hJ (S:=SL (decide (j<L.length)) ⟨L,j,W.heap.size,0⟩ rfl) (fs:=[.h 0,.ix 1])
 have hs0:=hsays (fun f hf=>by
  rcases List.mem_cons.1 hf with rfl | hf
  ·exact (h.below hJ.bel).wide hJ.bel.size
  ·obtain rfl:=List.mem_singleton.1 hf
   exact ⟨rfl,by show j≤1000;omega⟩)
 clear hsays
 obtain ⟨σ,hx,hp,hb,hn⟩:=ru (fun a b h=>uM h) (OI (R:=⟨L,j,W.heap.size,0⟩) (hm:=rfl) (h0:=rfl) (decide_eq_true hj) (fun t=>a.tmps.getD t undef))
 simp only [lN] at hx
 split at hx
 ·rename_i σ1 hx1
  split at hx
  ·rename_i σ2 hx2
   cases hx
   have hwf:Wf (S:=SL (decide (j<L.length)) ⟨L,j,W.heap.size,0⟩ rfl) ⟨bH gP (fun t=>a.tmps.getD t undef) 0,[],[.h 0,.ix 1],4⟩:=rU (by kernel_rfl) _
   obtain ⟨wf1,le1,go1⟩:=exec_good (w0:=W) (Nat.le_refl _) mixed jR hEW _ _ _ _ hx1 hwf
   obtain ⟨-,-,go2⟩:=exec_good (w0:=W) (Nat.le_refl _) mixed jR hEW _ _ _ _ hx2 wf1
   rw [P6]
   refine wp_seq (go1 _ _ _ _ hs0 fun ρ1 a1 W1 l1 s1=>wp_seq (wp_block (wp_seq (go2 ρ1 a1 W1 _ s1 fun ρ2 a2 W2 l2 s2=>?_))))
   have s3:=rJ (S':=SL (decide (j<L.length)) ⟨L,j,W.heap.size,0⟩ rfl) (fs:=[]) (base:=14) hp hb s2 (fun f hf=>by cases hf)
   have f1:=s2.fc _ (hn (.f (.q 516 (.v 1) 4)) (.head _))
   have f2:=s2.fc _ (hn (.f (.r 518 (.v 1) 4)) (.tail _ (.head _)))
   have hl:∀ n,n<4→ρ2 n=(ev [c,⟨false,j,none,0,0,.empty,0⟩,va,vb]) n:=fun n hn=>(l2 n (Nat.lt_of_lt_of_le hn le1)).trans (l1 n hn)
   have hsz:a2.tmps.size=33:=by rw [s2.sz,← qg hp];rfl
   have hdf:=s2.df
   have e0:a2.tmps.getD 0 undef=.slice c.p c.l c.c:=(s3.rg 0).trans (by show Value.slice (ρ2 0).p (ρ2 0).l (ρ2 0).c=_;rw [hl 0 (by decide)];rfl)
   have e4:a2.tmps.getD 4 undef=.slice va.p va.l va.c:=(s3.rg 4).trans (by show Value.slice (ρ2 2).p (ρ2 2).l (ρ2 2).c=_;rw [hl 2 (by decide)];rfl)
   have e5:a2.tmps.getD 5 undef=.slice vb.p vb.l vb.c:=(s3.rg 5).trans (by show Value.slice (ρ2 3).p (ρ2 3).l (ρ2 3).c=_;rw [hl 3 (by decide)];rfl)
   have e6:a2.tmps.getD 6 undef=.int .i64 (j:Int):=(s3.rg 6).trans (by show Value.int .i64 (ρ2 1).u=_;rw [hl 1 (by decide)];rfl)
   have e7:a2.tmps.getD 7 undef=.pointer (some ⟨(ρ2 772).pos,0,none⟩):=s3.rg 7
   have e8:a2.tmps.getD 8 undef=.pointer (some ⟨(ρ2 836).pos,0,none⟩):=s3.rg 8
   obtain ⟨p7,x7⟩:=s3.bx 4 _ _ rfl
   obtain ⟨p8,x8⟩:=s3.bx 5 _ _ rfl
   have hbel:=s3.bel
   have hg1:=pG hbel
   have hlt:∀ g,(Value.slice va.p va.l va.c).ownBlock=some g→g<W.heap.size:=fun g hg=>by
    obtain ⟨T,vs,hb,-⟩:=rD o1 g hg
    exact hb.lt
   have hltb:∀ g,(Value.slice vb.p vb.l vb.c).ownBlock=some g→g<W.heap.size:=fun g hg=>by
    obtain ⟨T,vs,hb,-⟩:=rD o2 g hg
    exact hb.lt
   have hB2:w.heap.size≤W2.heap.size:=Nat.le_trans hJ.bel.size hbel.size
   have htl:(L.take j).length<1000:=by rw [List.length_take];omega
   show ((hdS (jF Tryz.f59)).seq (tlS (jF Tryz.f59))).wp Tryz.prog _ a2 W2
   refine wp_seq (JG a2 va (ρ2 516) (ρ2 517) (ρ2 772).pos w.heap.size (L.take j) (L.getD j 0) W2 _ hsz hdf e4 e7 (o1.grew hg1 (fun b _ e=>by cases e)) hB2 x7 f1.1 f1.2 htl fun a3 v1 w1 g1 g2 g3 g4 g5 g6 k4 k0 k5 k6 k7 k8=>?_)
   have o2':bV false w1 w.heap.size (.slice vb.p vb.l vb.c) (L.take j):=(o2.grew hg1 (fun b _ e=>by cases e)).grew g2 (fun b hb e=>hne b e.symm hb)
   have x8':Go.Proofs.YtcglmmbgoonjnaaGreatDoor.Bx w1 (ρ2 836).pos (tyK false) (aG false (ρ2 518) (ρ2 519)):=(g2.far _ x8.lt (fun e=>by have:=hlt _ e.symm;have h8:W.heap.size≤(ρ2 836).pos:=p8;omega)).trans x8
   refine JF a3 vb (ρ2 518) (ρ2 519) (ρ2 836).pos w.heap.size (L.take j) (L.getD j 0) w1 _ g5 g6 (k5.trans e5) (k8.trans e8) o2' (Nat.le_trans hB2 g2.sz) x8' (g2.is (k:=false) f2.1) f2.2 htl fun a4 v2 w2 q1 q2 q3 q4 q5 q6 m5 m0 m4 m6 m7 m8=>?_
   have hd1:∀ b,v1.ownBlock=some b→(Value.slice vb.p vb.l vb.c).ownBlock≠some b:=fun b hb e=>by
    rcases g4 b hb with h1 | h1
    ·exact hne b h1 e
    ·have:=hltb b e
     have:=hbel.size
     omega
   have o1':bV true w2 w.heap.size v1 (L.take j ++ [L.getD j 0]):=g1.grew q2 (fun b hb e=>hd1 b hb e.symm)
   have hd2:∀ b,v1.ownBlock=some b→v2.ownBlock≠some b:=fun b hb e=>by
    rcases q4 b e with h1 | h1
    ·exact hd1 b hb h1
    ·obtain ⟨T,vs,hb',-⟩:=rD g1 b hb
     have:=hb'.lt
     omega
   obtain ⟨ca,rfl⟩:=Gh o1'
   obtain ⟨cb,rfl⟩:=Gh q1
   rw [← UM hj] at o1' q1
   have hbw:Below w.heap.size w w2:=((hJ.bel.trans (hbel.mono hJ.bel.size)).trans g3).trans q3
   have s4:=GZ (S:=SL (decide (j<L.length)) ⟨L,j,w2.heap.size,0⟩ rfl) (p:=gP) (fs:=[.ix 1]) (base:=4) (ρ:=ev [c,⟨false,j,none,0,0,.empty,0⟩,ca,cb]) (a:=a4) (W:=w2) q5 q6 ⟨m0.trans (k0.trans e0),m4.trans k4,m5,m6.trans (k6.trans e6),trivial⟩ (fun f hf=>by
    obtain rfl:=List.mem_singleton.1 hf
    exact ⟨rfl,by show j≤1000;omega⟩)
   obtain ⟨σ3,hx3,hp3,hb3,hn3⟩:=ru (fun a b h=>uM h) (OH (R:=⟨L,j,w2.heap.size,0⟩) (hm:=rfl) (h0:=rfl) (fun t=>a4.tmps.getD t undef))
   have hwf3:Wf (S:=SL (decide (j<L.length)) ⟨L,j,w2.heap.size,0⟩ rfl) ⟨bH gP (fun t=>a4.tmps.getD t undef) 0,[],[.ix 1],4⟩:=rU (by kernel_rfl) _
   obtain ⟨-,-,go3⟩:=exec_good (w0:=w2) (Nat.le_refl _) mixed jR (fun W' hb=>dM hE W' (hbw.trans (hb.mono hbw.size))) _ _ _ _ hx3 hwf3
   show (zY Tryz.f59).wp Tryz.prog Q a4 w2
   refine go3 _ _ _ _ s4 fun ρ5 a5 W5 l5 s5=>hQ a5 W5 ?_
   have s6:=rJ (S':=SL (decide (j<L.length)) ⟨L,j,w2.heap.size,0⟩ rfl) (fs:=[]) (base:=14) hp3 hb3 s5 (fun f hf=>by cases hf)
   have hnx:(ρ5 68).u=((j+1:Nat):Int):=s5.fc _ (hn3 (.nx 68) (.head _))
   refine ⟨by rw [s5.sz,← qg hp3];rfl,s5.df,(s6.rg 0).trans ?_,(s6.rg 6).trans ?_,⟨ca,cb,(s6.rg 4).trans ?_,(s6.rg 5).trans ?_,o1'.grew (pG s5.bel) (fun b _ e=>by cases e),q1.grew (pG s5.bel) (fun b _ e=>by cases e),hd2⟩,hbw.trans (s5.bel.mono hbw.size)⟩
   ·show Value.slice (ρ5 0).p (ρ5 0).l (ρ5 0).c=_
    rw [l5 0 (show 0<4 by decide)];rfl
   ·show Value.int .i64 (ρ5 68).u=_
    rw [hnx]
   ·show Value.slice (ρ5 2).p (ρ5 2).l (ρ5 2).c=_
    rw [l5 2 (show 2<4 by decide)];rfl
   ·show Value.slice (ρ5 3).p (ρ5 3).l (ρ5 3).c=_
    rw [l5 3 (show 3<4 by decide)];rfl
  ·cases hx
 ·cases hx
def xq (w:World) (L:List Rat) (e:Ending) (W':World):Prop:=∃ va vb:Nv,e=.returned (.tuple #[.slice va.p va.l va.c,.slice vb.p vb.l vb.c])∧bG true W' W'.heap.size va L∧bG false W' W'.heap.size vb L∧Below w.heap.size w W'
theorem Fg (hlen:L.length≤30) (h:fE w w.heap.size c L) (hE:EV w):∀ d j,j+d=L.length→∀ a W,LJ w W c L j a →
  Code.rounds Tryz.prog (liB Tryz.f59) (Exit.inBlock 0 (Exit.then ((tlS (tlS (tlS (tlS (Tryz.f59.body.getD .skip))))).wp Tryz.prog (bodyPost Tryz.prog Tryz.f59 (xq w L))) (bodyPost Tryz.prog Tryz.f59 (xq w L)))) (d+1) a W
 | 0,j,hj,a,W,hJ=>by
  obtain rfl:j=L.length:=by omega
  rw [rounds_succ]
  obtain ⟨va,vb,o1,o2,-,hsays⟩:=Fh hJ (S:=SL (decide (L.length<L.length)) ⟨L,L.length,W.heap.size,0⟩ rfl) (fs:=[.h 0,.ix 1])
  have hs0:=hsays (fun f hf=>by
   rcases List.mem_cons.1 hf with rfl | hf
   ·exact (h.below hJ.bel).wide hJ.bel.size
   ·obtain rfl:=List.mem_singleton.1 hf
    exact ⟨rfl,by show L.length≤1000;omega⟩)
  have hEW:∀ W',Below W.heap.size W W'→EV W':=fun W' hb=>dM hE W' (hJ.bel.trans (hb.mono hJ.bel.size))
  obtain ⟨v,fsE,he,ht⟩:=qM (OG (R:=⟨L,L.length,W.heap.size,0⟩) (hm:=rfl) (h0:=rfl) (decide_eq_false (Nat.lt_irrefl _)) (fun t=>a.tmps.getD t undef))
  unfold oV at he
  split at he
  ·rename_i σ1 hx1
   split at he
   ·rename_i σ2 hx2
    split at he
    ·rename_i l hl
     have hv:packR l=v:=congrArg Prod.fst (Option.some.inj he)
     have hwf:Wf (S:=SL (decide (L.length<L.length)) ⟨L,L.length,W.heap.size,0⟩ rfl) ⟨bH gP (fun t=>a.tmps.getD t undef) 0,[],[.h 0,.ix 1],4⟩:=rU (by kernel_rfl) _
     obtain ⟨wf1,le1,go1⟩:=exec_good (w0:=W) (Nat.le_refl _) mixed jR hEW _ _ _ _ hx1 hwf
     obtain ⟨-,-,go2⟩:=exec_good (w0:=W) (Nat.le_refl _) mixed jR hEW _ _ _ _ hx2 wf1
     refine go1 _ a W _ hs0 fun ρ1 a1 W1 l1 s1=>?_
     show (tlS (tlS (tlS (tlS (Tryz.f59.body.getD .skip))))).wp Tryz.prog _ a1 W1
     refine go2 ρ1 a1 W1 _ s1 fun ρ2 a2 W2 l2 s2=>?_
     have hr:=results_ok s2 hl
     rw [hv] at hr
     have hl2:∀ n,n<4→ρ2 n=(ev [c,⟨false,L.length,none,0,0,.empty,0⟩,va,vb]) n:=fun n hn=>(l2 n (Nat.lt_of_lt_of_le hn le1)).trans (l1 n hn)
     have ha:=Gg (o1.grew (pG s2.bel) (fun b _ e=>by cases e))
     have hb:=Gg (o2.grew (pG s2.bel) (fun b _ e=>by cases e))
     rw [List.take_length] at ha hb
     unfold EM at ht
     split at ht
     ·refine bodyPost_ret hr s2.df ⟨va,vb,?_,ha,hb,hJ.bel.trans (s2.bel.mono hJ.bel.size)⟩
      show Ending.returned (.tuple #[.slice (ρ2 2).p (ρ2 2).l (ρ2 2).c,.slice (ρ2 3).p (ρ2 3).l (ρ2 3).c])=_
      rw [hl2 2 (by decide),hl2 3 (by decide)];rfl
     ·cases ht
    ·cases he
   ·cases he
  ·cases he
 | d+1,j,hj,a,W,hJ=>by
  rw [rounds_succ]
  exact list_round hlen h hE (by omega) hJ fun a' W' hJ'=>Fg hlen h hE d (j+1) (by omega) a' W' hJ'
theorem P7 (hlen:L.length≤30) (h:fE w w.heap.size c L) (hE:EV w):Calls Tryz.prog 59 #[.slice c.p c.l c.c] w (xq w L):=by
 obtain ⟨σ,hx,hp,hb,hn⟩:=ru (fun a b h=>uM h) (OJ (R:=⟨L,0,w.heap.size,0⟩) (hm:=rfl) (h0:=rfl))
 simp only [lN] at hx
 split at hx
 ·rename_i σ0 hx0
  split at hx
  ·rename_i σ1 hx1
   split at hx
   ·rename_i σ2 hx2
    split at hx
    ·rename_i σ3 hx3
     cases hx
     obtain ⟨wf0,le0,go0⟩:=exec_good (w0:=w) (Nat.le_refl _) mixed jR (dM hE) _ _ _ _ hx0 (Ir (by kernel_rfl))
     obtain ⟨wf1,le1,go1⟩:=exec_good (w0:=w) (Nat.le_refl _) mixed jR (dM hE) _ _ _ _ hx1 wf0
     obtain ⟨wf2,le2,go2⟩:=exec_good (w0:=w) (Nat.le_refl _) mixed jR (dM hE) _ _ _ _ hx2 wf1
     obtain ⟨-,-,go3⟩:=exec_good (w0:=w) (Nat.le_refl _) mixed jR (dM hE) _ _ _ _ hx3 wf2
     have s0:State.Says (S:=SL (decide (0<L.length)) ⟨L,0,w.heap.size,0⟩ rfl) ⟨[.e (.s (.os 0))] ++ List.replicate (Tryz.f59.ntmps - 1) .und,[],[],1⟩ w (ev [c]) { tmps:=([SV.e (.s (.os 0))].map (SV.den (ev [c]))).toArray ++ Array.replicate (Tryz.f59.ntmps - ([SV.e (.s (.os 0))].map (SV.den (ev [c]))).toArray.size) undef,defers:=[] } w:=G5 (fun f hf=>by cases hf)
     refine calls_of_wp (f:=59) Tryz.func59 (show Tryz.f59.body=some ((hdS (Tryz.f59.body.getD .skip)).seq ((hdS (tlS (Tryz.f59.body.getD .skip))).seq ((hdS (tlS (tlS (Tryz.f59.body.getD .skip)))).seq (((hdS (hdS (tlS (tlS (tlS (Tryz.f59.body.getD .skip)))))).seq (.block 0 (.loop (liB Tryz.f59)))).seq (tlS (tlS (tlS (tlS (Tryz.f59.body.getD .skip)))))))))  by kernel_rfl) ?_
     refine wp_seq (go0 _ _ _ _ s0 fun ρ1 a1 W1 l1 s1=>wp_seq (go1 _ _ _ _ s1 fun ρ2 a2 W2 l2 s2=>wp_seq (go2 _ _ _ _ s2 fun ρ3 a3 W3 l3 s3=>wp_seq (wp_seq (go3 _ _ _ _ s3 fun ρ4 a4 W4 l4 s4=>wp_block (wp_loop_rounds (L.length+1) ?_))))))
     have s5:=rJ (S':=SL (decide (0<L.length)) ⟨L,0,w.heap.size,0⟩ rfl) (fs:=[]) (base:=1) hp hb s4 (fun f hf=>by cases hf)
     refine Fg hlen h hE L.length 0 (by omega) a4 W4 ⟨by rw [s4.sz,← qg hp];rfl,s4.df,(s5.rg 0).trans ?_,s5.rg 6,⟨⟨false,0,none,0,0,.empty,0⟩,⟨false,0,none,0,0,.empty,0⟩,s5.rg 4,s5.rg 5,.inl ⟨rfl,by simp⟩,.inl ⟨rfl,by simp⟩,fun g hg=>by cases hg⟩,s4.bel⟩
     show Value.slice (ρ4 0).p (ρ4 0).l (ρ4 0).c=_
     have b0:0<σ0.base:=Nat.lt_of_lt_of_le (show 0<1 by decide) le0
     have b1:0<σ1.base:=Nat.lt_of_lt_of_le b0 le1
     rw [l4 0 (Nat.lt_of_lt_of_le b1 le2),l3 0 b1,l2 0 b0,l1 0 (show 0<1 by decide)];rfl
    ·cases hx
   ·cases hx
  ·cases hx
 ·cases hx
end
end Rx
namespace Rx
open Go.RowKit
abbrev K3:Nat:=1024
abbrev y0:RE:=.v 0
abbrev y1:RE:=.v 1
abbrev y2:RE:=.v 2
abbrev y3:RE:=.v 3
abbrev Q2:List At:=[.q,.q]
abbrev R2:List At:=[.r,.r]
def qc (x:RE):RE:=.add (.c 1) x
def sqs (x y:RE):RE:=.add (.mul x x) (.mul y y)
def tR (e:RE):RE:=.div (.mul (.c 2) e) (.add (.c 1) (.mul e e))
def EC (β:Nat→Rat) (h:Hint):Con (SQ β):=aZ β h 31 [[.r],[.r]] 16384 {} (.at [.r] [.sub y0 y1]) 32769
theorem Om {β:Nat→Rat} {h:Hint} (ok:h.Ok β):(EC β h).Ok Tryz.prog (SQ β) EV:=yF ok (by decide) fun γ g=>⟨{},fQ γ,1,c0 γ {},qH (fQ γ),by kernel_rfl⟩
def ED (β:Nat→Rat) (h:Hint):Con (SQ β):=aZ β h 19 [[.q],[.r]] K1 { eq:=[(y0,y1)] } (.bl true) K1
theorem Oz {β:Nat→Rat} {h:Hint} (ok:h.Ok β):(ED β h).Ok Tryz.prog (SQ β) EV:=yF ok (by decide) fun γ g=>⟨{ eq:=[(y0,y1)] },g,1,c0 γ { eq:=[(y0,y1)] },qH g,by kernel_rfl⟩
def EF (β:Nat→Rat) (h:Hint):Con (SQ β):=aZ β h 19 [[.q],[.o]] K1 { eq:=[(y0,.c 0)] } (.bl true) K1
theorem Ov {β:Nat→Rat} {h:Hint} (ok:h.Ok β):(EF β h).Ok Tryz.prog (SQ β) EV:=yF ok (by decide) fun γ g=>⟨{ eq:=[(y0,.c 0)] },g,1,c0 γ { eq:=[(y0,.c 0)] },qH g,by kernel_rfl⟩
def c1 (β:Nat→Rat) (h:Hint):List (Con (SQ β)):=EC β h :: ED β h :: EF β h :: c0 β h
theorem J6 {β:Nat→Rat} {h:Hint} (ok:h.Ok β):∀ c∈c1 β h,c.Ok Tryz.prog (SQ β) EV:=by
 unfold c1
 simp only [List.forall_mem_cons]
 exact ⟨Om ok,Oz ok,Ov ok,qH ok⟩
def Ox (β:Nat→Rat) (h:Hint):Con (SQ β):=aZ β h 67 [Q2,R2] K1 { eq:=[(y0,y2),(y1,y3)] } (.bl true) K1
def Oy (β:Nat→Rat) (h:Hint):Con (SQ β):=aZ β h 82 [Q2,R2] K1 { eq:=[(y0,y2),(y1,y3)] } (.bl true) K1
def NV (β:Nat→Rat) (h:Hint):Con (SQ β):=aZ β h 68 [Q2,Q2] K3 {} (.at Q2 [.add y0 y2,.add y1 y3]) K1
def OB (β:Nat→Rat) (h:Hint):Con (SQ β):=aZ β h 70 [Q2,Q2] K3 {} (.at Q2 [.sub y0 y2,.sub y1 y3]) K1
def OA (β:Nat→Rat) (h:Hint):Con (SQ β):=aZ β h 72 [Q2,[.q]] K3 {} (.at Q2 [.mul y0 y2,.mul y1 y2]) K1
def N9 (β:Nat→Rat) (h:Hint):Con (SQ β):=aZ β h 69 [R2,R2] K3 {} (.at R2 [.add y0 y2,.add y1 y3]) K1
def Oa (β:Nat→Rat) (h:Hint):Con (SQ β):=aZ β h 71 [R2,R2] K3 {} (.at R2 [.sub y0 y2,.sub y1 y3]) K1
def Ol (β:Nat→Rat) (h:Hint):Con (SQ β):=aZ β h 73 [R2,[.r]] K3 {} (.at R2 [.mul y0 y2,.mul y1 y2]) K1
def Oh (β:Nat→Rat) (h:Hint):Con (SQ β):=aZ β h 75 [R2,R2] K3 {} (.at [.r] [.add (.mul y0 y2) (.mul y1 y3)]) K1
def Og (β:Nat→Rat) (h:Hint):Con (SQ β):=aZ β h 77 [R2,R2] K3 {} (.at [.r] [.sub (.mul y0 y3) (.mul y1 y2)]) K1
def Ob (β:Nat→Rat) (h:Hint):Con (SQ β):=aZ β h 79 [R2,R2] K3 {} (.at R2 [.sub (.mul y2 y0) (.mul y3 y1),.add (.mul y3 y0) (.mul y2 y1)]) K1
def Oo (β:Nat→Rat) (h:Hint):Con (SQ β):=aZ β h 86 [R2,R2] K3 {} (.at R2 [.sub (.mul y0 y2) (.mul y1 y3),.add (.mul y1 y2) (.mul y0 y3)]) K1
def Oe (β:Nat→Rat) (h:Hint):Con (SQ β):=aZ β h 88 [R2] K3 {} (.at R2 [y0,.neg y1]) K1
def Oq (β:Nat→Rat) (h:Hint):Con (SQ β):=aZ β h 84 [[.r]] K3 {} (.at R2 [tC y0,tR y0]) K1
def NZ (β:Nat→Rat) (h:Hint):Con (SQ β):=aZ β h 74 [Q2,Q2] K3 {} (.at [.q] [.add (.mul y0 y2) (.mul y1 y3)]) K1
def NY (β:Nat→Rat) (h:Hint):Con (SQ β):=aZ β h 76 [Q2,Q2] K3 {} (.at [.q] [.sub (.mul y0 y3) (.mul y1 y2)]) K1
def Oc (β:Nat→Rat) (h:Hint):Con (SQ β):=aZ β h 78 [Q2,Q2] K3 {} (.at Q2 [.sub (.mul y2 y0) (.mul y3 y1),.add (.mul y3 y0) (.mul y2 y1)]) K1
def OC (β:Nat→Rat) (h:Hint):Con (SQ β):=aZ β h 85 [Q2,Q2] K3 {} (.at Q2 [.sub (.mul y0 y2) (.mul y1 y3),.add (.mul y1 y2) (.mul y0 y3)]) K1
def NW (β:Nat→Rat) (h:Hint):Con (SQ β):=aZ β h 87 [Q2] K3 {} (.at Q2 [y0,.neg y1]) K1
def N7 (β:Nat→Rat) (h:Hint):Con (SQ β):=aZ β h 80 [[.q,.q]] K3 { nz:=[qc y0] } (.atb [.q] [.div y1 (qc y0)] true) K1
def OD (β:Nat→Rat) (h:Hint):Con (SQ β):=aZ β h 89 [Q2] K3 { eq:=[(sqs y0 y1,.c 1)] } (.bl true) K1
def Oi (β:Nat→Rat) (h:Hint):Con (SQ β):=aZ β h 81 [[.r,.r]] K3 { nz:=[qc y0] } (.atb [.r] [.div y1 (qc y0)] true) K1
def N8 (β:Nat→Rat) (h:Hint):Con (SQ β):=aZ β h 80 [Q2] K3 { sg:=[(qc y0,0)] } (.atb [.q] [.c 0] false) K1
def Oj (β:Nat→Rat) (h:Hint):Con (SQ β):=aZ β h 81 [R2] K3 { sg:=[(qc y0,0)] } (.atb [.o] [.c 0] false) K1
def Ot (β:Nat→Rat) (h:Hint):Con (SQ β):=aZ β h 90 [R2] K3 { eq:=[(sqs y0 y1,.c 1)] } (.bl true) K1
def OE (β:Nat→Rat) (h:Hint):Con (SQ β):=aZ β h 89 [Q2] K3 { ne:=[(sqs y0 y1,.c 1)] } (.bl false) K1
def Ou (β:Nat→Rat) (h:Hint):Con (SQ β):=aZ β h 90 [R2] K3 { ne:=[(sqs y0 y1,.c 1)] } (.bl false) K1
def c2 (β:Nat→Rat) (h:Hint):List (Con (SQ β)):=NZ β h :: NY β h :: Oc β h :: OC β h :: NW β h :: N7 β h :: OD β h :: Ox β h :: Oy β h :: NV β h :: OB β h :: OA β h :: N9 β h :: Oa β h :: Ol β h :: Oh β h :: Og β h :: Ob β h :: Oo β h :: Oe β h :: Oq β h :: Oi β h :: N8 β h :: Oj β h :: Ot β h :: OE β h :: Ou β h :: c1 β h
def c3 (β:Nat→Rat) (h:Hint):List (Con (SQ β)):=KF β :: oN β :: (c2 β h ++ cl1 β)
end Rx
namespace Rx
open Go.RowKit
section
variable {L:List Rat} {c:Nv} {w:World}
def SF (β:Nat→Rat) (L:List Rat):Sys where
 F:=Lf
 nm:=Lf.nm
 on:=fun ρ f W=>match f with
  | .f x=>Fc.on β ρ x W
  | .l k s=>bG k W W.heap.size (ρ s) L
  | .h s=>fE W W.heap.size (ρ s) L
  | .le i s=>(ρ i).u=((ρ s).l:Int)
  | .ix _=>True
  | .nx _=>True
 okC:=fun _=>false
 cg:=fun {ρ ρ' f W} h hf=>by
  cases f with
  | f x=>exact (SQ β).cg (f:=x) h hf
  | l k s=>simp only at hf ⊢;rw [← h s (by simp [Lf.nm])];exact hf
  | h s=>simp only at hf ⊢;rw [← h s (by simp [Lf.nm])];exact hf
  | le i s=>simp only at hf ⊢;rw [← h s (by simp [Lf.nm]),← h i (by simp [Lf.nm])];exact hf
  | ix i=>trivial
  | nx i=>trivial
 bl:=fun {ρ f W W'} hb hf=>by
  cases f with
  | f x=>exact (SQ β).bl (f:=x) hb hf
  | l k s =>
   have h1:bG k W' W.heap.size (ρ s) L:=bG.below hf hb
   exact ⟨h1.1,fun i hi=>by
    obtain ⟨b,o,x,y,g1,g2,g3,g4⟩:=h1.2 i hi
    exact ⟨b,o,x,y,g1,g3,g3,g4⟩⟩
  | h s=>exact (fE.below hf hb).wide hb.size
  | le i s=>exact hf
  | ix i=>trivial
  | nx i=>trivial
 st:=fun hok _ _ _=>by cases hok
 len:=fun s b=>[.le b s]
 lenOk:=fun {s b f ρ W} h hu=>by
  obtain rfl:=List.mem_singleton.1 h
  exact hu
def gtF (long:Bool) (db:List Lf):Cell→Cell→Option Bool
 | .oi n,.it .i64 30=>(match findLe db n with
  | some s=>if jC db s then some long else none
  | none=>none)
 | _,_=>none
def HF (β:Nat→Rat) (L:List Rat) (long:Bool) (hl:long=decide (30<L.length)):Tests (SF β L) where
 eq:=fun _ _ _=>none
 ok:=fun h=>by cases h
 gt:=gtF long
 gok:=fun {fs c d x} hh ρ W hf=>by
  unfold gtF at hh
  split at hh
  ·rename_i n
   split at hh
   ·rename_i s hs
    split at hh
    ·rename_i hh2
     cases hh
     have h1:=(hf _ (je hh2)).1
     have h3:=hf _ (kT hs)
     refine ⟨.i64,(ρ n).u,30,rfl,rfl,?_⟩
     rw [hl,show (ρ n).u=((ρ s).l:Int) from h3,h1]
     by_cases hz:30<L.length
     ·simp [hz];omega
     ·simp [hz];omega
    ·cases hh
   ·cases hh
  ·cases hh
def vF {β:Nat→Rat} (L:List Rat) (c:Con (SQ β)):Con (SF β L) where
 fn:=c.fn
 app:=fun db b args=>(c.app (unL db) b args).map fun x=>(x.1,x.2.map .f)
theorem zZ {β:Nat→Rat} {E:World→Prop} {c:Con (SQ β)} (h:c.Ok Tryz.prog (SQ β) E):(vF L c).Ok Tryz.prog (SF β L) E:=by
 intro db b args res new ha ρ W hf hE
 obtain ⟨⟨v,fs⟩,h1,h2⟩:=Option.map_eq_some_iff.1 ha
 cases h2
 refine (h (unL db) b args v fs h1 ρ W (fun g hg=>hf _ (jK hg)) hE).mono fun e W' ⟨ρ',g1,g2,g3,g4⟩=>⟨ρ',g1,g2,g3,fun f hf'=>?_⟩
 obtain ⟨x,hx,rfl⟩:=List.mem_map.1 hf'
 exact g4 x hx
theorem bG.here {k:Bool} {W:World} {B:Nat} (h:bG k W B c L):bG k W W.heap.size c L:=
 ⟨h.1,fun i hi=>by
  obtain ⟨b,o,x,y,g1,g2,g3,g4⟩:=h.2 i hi
  exact ⟨b,o,x,y,g1,g3,g3,g4⟩⟩
def qJ (β:Nat→Rat) (L:List Rat) (f:FuncId) (n K:Nat):Con (SF β L) where
 fn:=f
 app:=fun db b args=>match args with
  | [.e (.s (.os s))]=>if jd db s=some true then some (.e (.a (aI b)),[.f (.q b (.v n) K)]) else none
  | _=>none
theorem yE {β:Nat→Rat} {f:FuncId} {n K:Nat} (hf:Fits K (β n)) (h:∀ (c:Nv) W,bG true W W.heap.size c L→EV W→Calls Tryz.prog f #[.slice c.p c.l c.c] W (aU W (β n))):(qJ β L f n K).Ok Tryz.prog (SF β L) EV:=by
 intro db b args res new ha ρ W hdb hE
 simp only [qJ] at ha
 split at ha
 ·rename_i s
  split at ha
  ·rename_i hs
   cases ha
   have h1:=hdb _ (iO hs)
   refine (oH (β:=β) (ρ:=ρ) (b:=b) (e:=.v n) (h (ρ s) W h1 hE) hf).mono fun e W' ⟨ρ',g1,g2,g3,g4⟩=>⟨ρ',g1,g2,g3,fun f hf'=>?_⟩
   obtain rfl:=List.mem_singleton.1 hf'
   exact g4 _ (List.mem_singleton.2 rfl)
  ·cases ha
 ·cases ha
def qI (β:Nat→Rat) (L:List Rat) (emp:Bool) (f:FuncId) (n K:Nat):Con (SF β L) where
 fn:=f
 app:=fun db b args=>match args with
  | [.e (.s (.os s))]=>if jd db s=some false then (if emp then some (.e (.a [.bl false,.nils,.bl false,.nils]),[]) else some (.e (.a (aW b)),[.f (.r b (.v n) K)])) else none
  | _=>none
theorem yD {β:Nat→Rat} {emp:Bool} {f:FuncId} {n K:Nat} (he:emp=decide (L.length=0)) (hf:Fits K (β n)) (h:∀ (c:Nv) W,bG false W W.heap.size c L→EV W→Calls Tryz.prog f #[.slice c.p c.l c.c] W (sG W L.length (β n))):(qI β L emp f n K).Ok Tryz.prog (SF β L) EV:=by
 intro db b args res new ha ρ W hdb hE
 simp only [qI] at ha
 split at ha
 ·rename_i s
  split at ha
  ·rename_i hs
   have h1:=hdb _ (iO hs)
   have h2:=h (ρ s) W h1 hE
   split at ha
   ·rename_i hemp
    cases ha
    rw [he] at hemp
    refine h2.mono fun e W' ⟨v,g1,g2,g3⟩=>⟨ρ,fun _ _=>rfl,?_,g3,fun f hf'=>by cases hf'⟩
    unfold isF at g2
    rw [if_pos (of_decide_eq_true hemp)] at g2
    rw [g1,g2];rfl
   ·rename_i hemp
    cases ha
    have hne:¬ L.length=0:=by
     rw [he] at hemp
     simpa using hemp
    have h3:Calls Tryz.prog f #[.slice (ρ s).p (ρ s).l (ρ s).c] W (Z4.dW W (β n)):=h2.mono fun e W' ⟨v,g1,g2,g3⟩=>by
     unfold isF at g2
     rw [if_neg hne] at g2
     exact ⟨v,g1,g2,g3⟩
    refine (oI (β:=β) (ρ:=ρ) (b:=b) (e:=.v n) h3 hf).mono fun e W' ⟨ρ',g1,g2,g3,g4⟩=>⟨ρ',g1,g2,g3,fun f hf'=>?_⟩
    obtain rfl:=List.mem_singleton.1 hf'
    exact g4 _ (List.mem_singleton.2 rfl)
  ·cases ha
 ·cases ha
def yH (β:Nat→Rat) (L:List Rat):Con (SF β L) where
 fn:=59
 app:=fun db b args=>match args with
  | [.e (.s (.os s))]=>if jC db s then some (.t [.s (.os b),.s (.os (b+1))],[.l true b,.l false (b+1)]) else none
  | _=>none
theorem KO {β:Nat→Rat} (hl:L.length≤30):(yH β L).Ok Tryz.prog (SF β L) EV:=by
 intro db b args res new ha ρ W hdb hE
 simp only [yH] at ha
 split at ha
 ·rename_i s
  split at ha
  ·rename_i hs
   cases ha
   refine (P7 hl (hdb _ (je hs)) hE).mono fun e W' ⟨va,vb,g1,g2,g3,g4⟩=>⟨aH ρ b [va,vb],gu (by simp [M]),?_,g4,fun f hf'=>?_⟩
   ·rw [g1]
    simp [SV.den,El.den,Cell.den,aH]
   ·rcases List.mem_cons.1 hf' with rfl | hf'
    ·show bG true W' W'.heap.size (aH ρ b [va,vb] b) L
     simpa [aH] using g2
    ·obtain rfl:=List.mem_singleton.1 hf'
     show bG false W' W'.heap.size (aH ρ b [va,vb] (b+1)) L
     simpa [aH] using g3
  ·cases ha
 ·cases ha
def uj {more:Bool} {R:Rd} (hm:more=decide (R.j<R.L.length)) (o:Int):Con (SL more R hm) where
 fn:=151
 app:=fun db b args=>match args with
  | [.e (.s (.os s)),.e (.s (.it .i64 o'))]=>if jd db s=some true && decide (o' = o) then some (.e (.a (aI b)),[.f (.q b (.v 0) 4)]) else none
  | _=>none
theorem DK {more:Bool} {R:Rd} {hm:more=decide (R.j<R.L.length)} {o:Int} (ho:o = -1∨o=1) (hlen:R.L.length≤30) (hf:Fits 4 R.acc) (hb:R.acc=aO o R.L R.L.length):(uj hm o).Ok Tryz.prog (SL more R hm) EV:=by
 intro db b args res new ha ρ W hdb hE
 simp only [uj] at ha
 split at ha
 ·rename_i s o'
  split at ha
  ·rename_i hs
   simp only [Bool.and_eq_true,decide_eq_true_eq] at hs
   obtain ⟨hs,rfl⟩:=hs
   cases ha
   have h1:bG true W W.heap.size (ρ s) R.L:=bG.here (hdb _ (iO hs))
   have h2:=Nl ho (show R.L.length≤1000 by omega) h1 hE
   rw [← hb] at h2
   refine (oH (β:=R.β) (ρ:=ρ) (b:=b) (e:=.v 0) h2 hf).mono fun e W' ⟨ρ',g1,g2,g3,g4⟩=>⟨ρ',g1,g2,g3,fun f hf'=>?_⟩
   obtain rfl:=List.mem_singleton.1 hf'
   exact g4 _ (List.mem_singleton.2 rfl)
  ·cases ha
 ·cases ha
end
end Rx
namespace Rx
open Go.RowKit
def isT:SV→List Lf→Bool
 | .e (.s (.bl true)),_=>true
 | _,_=>false
section
variable {L:List Rat} {c:Nv} {w:World}
theorem Qs {more first:Bool} {R:Rd} {hm:more=decide (R.j<R.L.length)} {h0:first=decide (R.j=0)}:jT (nI true (.v 0)) (runF Tryz.prog (SL more R hm) (HLs more first R hm h0) [uj hm (-1)] 1 60 [.e (.s (.os 0))] [.l true 0] 1)=true:=by kernel_rfl
theorem Qr (hlen:L.length≤30) (h:bG true w w.heap.size c L) (hE:EV w):Calls Tryz.prog 60 #[.slice c.p c.l c.c] w (aU w (aO (-1) L L.length)):=by
 obtain ⟨v,fs,he,ht⟩:=qM (Qs (R:=⟨L,0,w.heap.size,aO (-1) L L.length⟩) (hm:=rfl) (h0:=rfl))
 exact (runF_ok (S:=SL _ ⟨L,0,w.heap.size,aO (-1) L L.length⟩ rfl) (E:=EV) (ρ:=ev [c]) mixed (fun x hx=>by
  obtain rfl:=List.mem_singleton.1 hx
  exact DK (.inl rfl) hlen (kJ h.fits _ (Nat.le_refl _)) rfl) he (dM hE) (fun f hf=>by
  obtain rfl:=List.mem_singleton.1 hf
  exact h) (Nat.le_refl _)).mono fun e W' ⟨ρ',_,g1,g2,g3⟩=>⟨_,g1,qU (k:=true) ht g3,g2⟩
theorem Qi {more first:Bool} {R:Rd} {hm:more=decide (R.j<R.L.length)} {h0:first=decide (R.j=0)}:jT (nI true (.v 0)) (runF Tryz.prog (SL more R hm) (HLs more first R hm h0) [uj hm 1] 1 62 [.e (.s (.os 0))] [.l true 0] 1)=true:=by kernel_rfl
theorem Qh (hlen:L.length≤30) (h:bG true w w.heap.size c L) (hE:EV w):Calls Tryz.prog 62 #[.slice c.p c.l c.c] w (aU w (aO 1 L L.length)):=by
 obtain ⟨v,fs,he,ht⟩:=qM (Qi (R:=⟨L,0,w.heap.size,aO 1 L L.length⟩) (hm:=rfl) (h0:=rfl))
 exact (runF_ok (S:=SL _ ⟨L,0,w.heap.size,aO 1 L L.length⟩ rfl) (E:=EV) (ρ:=ev [c]) mixed (fun x hx=>by
  obtain rfl:=List.mem_singleton.1 hx
  exact DK (.inr rfl) hlen (kJ h.fits _ (Nat.le_refl _)) rfl) he (dM hE) (fun f hf=>by
  obtain rfl:=List.mem_singleton.1 hf
  exact h) (Nat.le_refl _)).mono fun e W' ⟨ρ',_,g1,g2,g3⟩=>⟨_,g1,qU (k:=true) ht g3,g2⟩
def fB (L:List Rat):Nat→Rat:=bet [aO (-1) L L.length,aO 1 L L.length,iZ L L.length]
def fH (emp:Bool):Hint:={ eq:=if emp then [(.v 0,.c 0),(.v 1,.c 0),(.v 2,.c 0)] else [] }
theorem Np {emp:Bool} (he:emp=decide (L.length=0)):(fH emp).Ok (fB L):=by
 refine ⟨fun p hp=>?_,fun p h=>(by cases h),fun p h=>(by cases h),fun p h=>(by cases h),fun p h=>(by cases h)⟩
 unfold fH at hp
 cases emp
 ·cases hp
 ·have hl:L.length=0:=of_decide_eq_true he.symm
  simp only [if_true,List.mem_cons,List.not_mem_nil,or_false] at hp
  rcases hp with rfl | rfl | rfl
  ·show aO (-1) L L.length=((0:Int):Rat)
   rw [hl];rfl
  ·show aO 1 L L.length=((0:Int):Rat)
   rw [hl];rfl
  ·show iZ L L.length=((0:Int):Rat)
   rw [hl];rfl
def cF (L:List Rat) (emp:Bool):List (Con (SF (fB L) L)):=vF L (oN (fB L)) :: yH (fB L) L :: qJ (fB L) L 60 0 4 :: qJ (fB L) L 62 1 4 :: qJ (fB L) L 64 2 160 :: qI (fB L) L emp 61 0 4 :: qI (fB L) L emp 63 1 4 :: qI (fB L) L emp 65 2 160 :: (c1 (fB L) (fH emp)).map (vF L)
theorem NR {long emp:Bool} (hl:long=decide (30<L.length)) (hs:long=false):jT isT (runF Tryz.prog (SF (fB L) L) (HF (fB L) L long hl) (cF L emp) 1 7 [.e (.s (.os 0))] [.h 0] 1)=true:=by
 subst hs
 cases emp <;> kernel_rfl
theorem NP {long:Bool} (hl:long=decide (30<L.length)) (hs:long=true):jT isT (runF Tryz.prog (SF (fB L) L) (HF (fB L) L long hl) [vF L (oN (fB L))] 1 7 [.e (.s (.os 0))] [.h 0] 1)=true:=by
 subst hs
 kernel_rfl
theorem fE.fits {W:World} {B:Nat} (h:fE W B c L):∀ i,i<L.length→Fits 4 (L.getD i 0):=fun i hi=>by
 obtain ⟨a,x,y,z,-,-,-,-,-,-,pw,hz,-,n1,n2,d1,d2,he⟩:=h.2 i hi
 rw [← he]
 exact Aj _ _ _ n1 n2 d1 d2
theorem NQ (h:fE w w.heap.size c L) (hE:EV w):Calls Tryz.prog 7 #[.slice c.p c.l c.c] w (bD w (.bool true)):=by
 have hfin:∀ {cons:List (Con (SF (fB L) L))},(∀ x∈cons,x.Ok Tryz.prog (SF (fB L) L) EV)→jT isT (runF Tryz.prog (SF (fB L) L) (HF (fB L) L (decide (30<L.length)) rfl) cons 1 7 [.e (.s (.os 0))] [.h 0] 1)=true→Calls Tryz.prog 7 #[.slice c.p c.l c.c] w (bD w (.bool true)):=fun hc hr=>by
  obtain ⟨v,fs,he,ht⟩:=qM hr
  refine (runF_ok (S:=SF (fB L) L) (E:=EV) (ρ:=ev [c]) mixed hc he (dM hE) (fun f hf=>by
   obtain rfl:=List.mem_singleton.1 hf
   exact h)).mono fun e W' ⟨ρ',_,g1,g2,g3⟩=>?_
  unfold isT at ht
  split at ht
  ·exact ⟨g1,g2⟩
  ·cases ht
 by_cases hl:30<L.length
 ·refine hfin (fun x hx=>?_) (NP rfl (decide_eq_true hl))
  obtain rfl:=List.mem_singleton.1 hx
  exact zZ DJ
 ·have hlen:L.length≤30:=by omega
  have f1:Fits 4 (aO (-1) L L.length):=kJ h.fits _ (Nat.le_refl _)
  have f2:Fits 4 (aO 1 L L.length):=kJ h.fits _ (Nat.le_refl _)
  have f3:Fits 160 (iZ L L.length):=(sQ h.fits _ (Nat.le_refl _)).mono (by omega)
  refine hfin (cons:=cF L (decide (L.length=0))) ?_ (NR rfl (decide_eq_false hl))
  unfold cF
  simp only [List.forall_mem_cons]
  refine ⟨zZ DJ,KO hlen,yE f1 fun _ _ a b=>Qr hlen a b,yE f2 fun _ _ a b=>Qh hlen a b,yE f3 fun _ _ a b=>UL hlen a b,
   yD rfl f1 fun _ _ a b=>Tt (by omega) a b,yD rfl f2 fun _ _ a b=>Tq (by omega) a b,yD rfl f3 fun _ _ a b=>TM hlen a b,fun x hx=>?_⟩
  obtain ⟨y,hy,rfl⟩:=List.mem_map.1 hx
  exact zZ (J6 (Np rfl) y hy)
end
end Rx
section
open Go.ChangeShapes Go.WideShapes Go.ChangeAt Go.RowKit Go.Joins Go.Deep
theorem J8 {W:World} {a:Addr} {v:Value} (h:W.cell? a=some v):a.block<W.heap.size:=by
 rcases Nat.lt_or_ge a.block W.heap.size with hlt | hge
 ·exact hlt
 ·unfold World.cell? at h;simp only [Array.getElem?_eq_none hge] at h;cases h
section
variable {H:Type} {enc:TypeId×Value→H}
theorem RP {W:World} {sp:Nat→Bool} {held:Bool} {fuel:Nat} {cs:List Value} {x:DataW H×List MemPlace} (h:DataW.trod enc Tryz.prog W 0 sp held fuel 46 cs=some x) (hl:cs.length=3) :
  ∃ (n d:Int) (b:Nat),cs=[.int .i64 n,.int .i64 d,.int .u8 (b:Int)]∧NumIn n d b:=by
 match cs,hl with
 | [c0,c1,c2],_ =>
  obtain ⟨y0,y1,y2,m,hx,_,h0,h1,h2⟩:=trod_struct3 Tryz.underlying46 h
  obtain ⟨n,e0,-,wn⟩:=DataW.trod_int Tryz.underlying2 (show DataW.trod enc Tryz.prog W 0 sp held m 2 [c0]=some y0 from h0)
  obtain ⟨d,e1,-,wd⟩:=DataW.trod_int Tryz.underlying2 (show DataW.trod enc Tryz.prog W 0 sp held m 2 [c1]=some y1 from h1)
  obtain ⟨b,e2,-,wb⟩:=DataW.trod_int Tryz.underlying5 (show DataW.trod enc Tryz.prog W 0 sp held m 5 [c2]=some y2 from h2)
  simp at e0 e1 e2
  subst e0 e1 e2
  have:=Ij wb
  obtain ⟨k,rfl⟩:∃ k:Nat,b=(k:Int):=⟨b.toNat,by omega⟩
  exact ⟨n,d,k,rfl,wn,wd,wb⟩
theorem NumIn.isN {n d:Int} {b:Nat} (h:NumIn n d b):Rx.IsN n d (b:Int) (numOf n d b):=⟨b,rfl,h.b1,h.n1,h.n2,h.d1,h.d2,rfl⟩
theorem RQ {W:World} {a0:Option Addr} {len cap:Nat} {x:DataW H} {p:List MemPlace} (h:DataW.Trod enc Tryz.prog W 0 (fun _=>true) true 72 (.slice a0 len cap) x p) :
  ∃ L:List Rat,Rx.fE W W.heap.size ⟨false,0,a0,len,cap,.empty,0⟩ L:=by
 obtain ⟨fuel,hf⟩:=h
 rcases open_slice (show Tryz.prog.underlying 72=some (.slice 46) by kernel_rfl) hf with ⟨hcs,-⟩ | ⟨a,len',cap',m,n,D,Pl,hcs,_,hl,hm,hmm,-,hx⟩
 ·simp [Value.cells] at hcs
  obtain ⟨rfl,rfl,rfl⟩:=hcs
  exact ⟨[],rfl,fun i hi=>by simp at hi⟩
 ·simp [Value.cells] at hcs
  obtain ⟨rfl,rfl,rfl⟩:=hcs
  simp only [if_true] at hmm
  have hr:∀ i,∃ r:Rat,i<len→∃ y z u,a.block<W.heap.size∧W.cell? ((a.add (i*3)).add 0)=some (.int .i64 y)∧W.cell? ((a.add (i*3)).add 1)=some (.int .i64 z)∧W.cell? ((a.add (i*3)).add 2)=some (.int .u8 u)∧Rx.IsN y z u r:=fun i=>by
   by_cases hi:i<len
   ·obtain ⟨cs',h1,h2⟩:=hx i (by omega)
    rw [numCells] at h1
    obtain ⟨_,hlen,hcell⟩:=World.cells?_some h1
    obtain ⟨y,z,u,rfl,hn⟩:=RP h2 hlen
    have c0:=hcell 0 (by omega)
    have c1:=hcell 1 (by omega)
    have c2:=hcell 2 (by omega)
    have hb:=J8 c0
    rw [Rx.add_block,Rx.add_block] at hb
    exact ⟨_,fun _=>⟨y,z,(u:Int),hb,c0,c1,c2,hn.isN⟩⟩
   ·exact ⟨0,fun h=>absurd h hi⟩
  obtain ⟨f,hf'⟩:=Classical.axiomOfChoice hr
  refine ⟨(List.range len).map f,by simp,fun i hi=>?_⟩
  have hi':i<len:=by simpa using hi
  obtain ⟨y,z,u,h1,h2,h3,h4,h5⟩:=hf' i hi'
  refine ⟨a,y,z,u,rfl,h1,h1,h2,h3,h4,?_⟩
  rw [show ((List.range len).map f).getD i 0=f i by simp [List.getD,hi']]
  exact h5
end
end
end Go.Proofs.YtcglmmbgoonjnaaGreatDoor
