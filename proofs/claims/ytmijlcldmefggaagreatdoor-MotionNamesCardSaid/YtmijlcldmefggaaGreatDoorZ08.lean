/- What the proof rests on, part 8. -/
import Derived.Test.YtmijlcldmefggaaGreatDoorZ07
import Derived.Test.YtmijlcldmefggaaGreatDoorZ06
import Derived.Lib.TrailingZeros
import Derived.Test.YtmijlcldmefggaaGreatDoorZ00
import Derived.Test.YtmijlcldmefggaaGreatDoorZ02
import Derived.Shelf.Spec.TrailingZeros
namespace Go.Proofs.YtmijlcldmefggaaGreatDoor
set_option maxRecDepth 100000
set_option maxHeartbeats 80000000
section
open Go.RowKit Go.Sort
abbrev DS (w w':World) (D:Nat) (v0 v1:Value):Prop:=
 w'.cell? ⟨D,0,none⟩=some v0∧w'.cell? ⟨D,1,none⟩=some v1∧(D<w'.heap.size∧Below w.heap.size w w')
theorem DS.next {w W W':World} {D:Nat} {v0 v1:Value} (h:DS w W D v0 v1) (hb:Below W.heap.size W W'):DS w W' D v0 v1:=
 ⟨(hb.cell (p:=⟨D,0,none⟩) h.2.2.1).trans h.1,(hb.cell (p:=⟨D,1,none⟩) h.2.2.1).trans h.2.1,Nat.lt_of_lt_of_le h.2.2.1 hb.size,h.2.2.2.trans (hb.mono h.2.2.2.size)⟩
theorem DS.drew {w W:World} {D:Nat} {v0 v1:Value} (h:DS w W D v0 v1):DS w W.drew D v0 v1:=⟨h.1,h.2.1,h.2.2.1,h.2.2.2.drew⟩
theorem Desc.drew {B0:Nat} {W:World} {D R n oa ob oc oe la lb lc le:Nat} {za zb zc ze:List Nat} (h:Desc B0 W D R n oa ob oc oe la lb lc le za zb zc ze) :
  Desc B0 W.drew D R n oa ob oc oe la lb lc le za zb zc ze:=h.below (Below.refl _ _).drew
theorem ddivide_calls (B0 D R n oa ob oc oe la lb lc le A B:Nat) (za zb zc ze:List Nat) (w:World) (h:Desc B0 w D R n oa ob oc oe la lb lc le za zb zc ze) (hN:Nums n la lb za zb A B) (hlb:2≤lb) (hn:n≤137438953472) :
  Calls Tryz.prog 159 #[.pointer (some ⟨D,0,none⟩)] w (RetDesc B0 w D R n B (A % B)):=by
 have hle:=hN.len h.ra.l h.rb.l h.ra.d
 obtain ⟨m,rfl⟩:∃ m,lb=m+2:=⟨lb - 2,by omega⟩
 have hxl:(za.take la).length=la:=by rw [List.length_take,h.ra.l];exact Nat.min_eq_left hN.hla
 have hyl:(zb.take (m+2)).length=m+2:=by rw [List.length_take,h.rb.l];exact Nat.min_eq_left hN.hlb
 have HDV:=hid (fun (w':World) (hb:Below w.heap.size w w')=>divide_great R oa n R ob n m (za.take la) (zb.take (m+2)) w' ((h.below hb).ra.h.take la).digs ((h.below hb).rb.h.take (m+2)).digs (h.below hb).uR (h.below hb).uR (h.ra.d.take _) (h.rb.d.take _) hN.ta hN.tb (by rw [hxl];have:=hN.hla;omega) (by rw [hN.va,hN.vb];exact hN.le) hyl)
 rw [hxl,hN.va,hN.vb] at HDV
 have s0:DS w w D (.slice (some ⟨R,oa,none⟩) la n) (.slice (some ⟨R,ob,none⟩) (m+2) n):=⟨h.c0,h.c1,h.uD,Below.refl _ _⟩
 have HH:=hid h
 have HN:=hid hN
 have HLE:=hid hle
 clear h hN hxl hyl hle
 go_enter Tryz.func159,Tryz.ntmps159
 go_wp2_with fail
 go_region_held3 (fun w'=>DS w w' D (.slice (some ⟨R,oa,none⟩) la n) (.slice (some ⟨R,ob,none⟩) (m+2) n))
  ((first | assumption | exact DS.next (by assumption) (by assumption) | exact DS.drew (by assumption)))
  (first
   | (go_at_call 162;refine (HDV.out _ ?_).mono ?_;exact (‹DS w _ D (.slice (some ⟨R,oa,none⟩) la n) (.slice (some ⟨R,ob,none⟩) (m+2) n)›).2.2.2;rintro e wA ⟨qv,rv,rfl,hQ,hR,hBA⟩))
 have hB:Below w.heap.size w wA:=(‹DS w wA D (.slice (some ⟨R,oa,none⟩) la n) (.slice (some ⟨R,ob,none⟩) (m+2) n)›).2.2.2
 clear hQ hBA HDV
 have hA:=HH.out.below hB
 have HB:=hid hB
 have c2:=hA.c2
 clear hB
 have HPOS:Hid (0<B):=by
  show 0<B
  have e:=val_pos_of_trimmed HN.out.tb (by intro e;have:=congrArg List.length e;rw [List.length_take,HH.out.rb.l,Nat.min_eq_left HN.out.hlb] at this;simp at this)
  rw [HN.out.vb] at e;exact e
 rcases hR with ⟨hr0,rfl⟩ | ⟨b,o,cp,ds,rfl,h2,h3,h4,h5,h6,h7⟩
 ·have hsl:=sliceHi_run R oc lc n 0 (Nat.zero_le _)
  have hcp:=run_copy_none (P:=Tryz.prog) wA 26 26 3 24 (some ⟨R,oc,none⟩) none 0 n 0 0 Tryz.underlying26 Tryz.sizeU (by decide)
  have HD:=hid hr0
  have d0:=hA.c0
  have d1:=hA.c1
  have g0:=hA.f0
  have g1:=hA.f1
  have g2:=hA.f2
  have HP:=hid hA
  clear hA hr0
  go_wp2_with fail
  go_region
  all_goals (go_wp2_with fail)
  go_end0
  have hB1:=HB.out.mono (Nat.le_of_lt (Nat.lt_of_le_of_lt HH.out.lD HH.out.uD))
  have lD:=HH.out.lD
  refine ⟨ob,oc,oa,oe,m+2,0,la,le,zb,zc,za,ze,rfl,HP.out.turn3.drew,⟨HN.out.hlb,Nat.zero_le _,HN.out.tb,?_,HN.out.vb,?_,Nat.le_of_lt (Nat.mod_lt _ HPOS.out)⟩,(((hB1.setCell lD _).setCell lD _).setCell lD _).drew⟩
  ·rw [List.take_zero];intro h;exact absurd rfl h
  ·rw [List.take_zero,HD.out];rfl
 ·have hk:ds.length≤m+2:=by
   rcases Nat.lt_or_ge (m+2) ds.length with h1 | h1
   ·have:=val_lt_of_length (xs:=zb.take (m+2)) (ys:=ds) (HH.out.rb.d.take _) h5 (by rw [List.length_take];omega)
    have:=Nat.mod_lt A HPOS.out
    rw [HN.out.vb,h6] at *
    omega
   ·exact h1
  have hkn:ds.length≤n:=Nat.le_trans hk HN.out.hlb
  have hsl:=sliceHi_run R oc lc n ds.length hkn
  have hcp:=copyN_run 3 wA R oc ds.length n b o cp (zc.take ds.length) ds (hA.rc.h.take _) h7 (by rw [List.length_take,hA.rc.l];omega) (Nat.le_refl _)
  rw [List.drop_of_length_le (by rw [List.length_take];omega),List.append_nil] at hcp
  have hP:=hA.putC (q:=0) (ds:=ds) hkn h4
  have hbp:Below B0 wA (putL wA 0 R oc ds):=below_putL _ _ _ _ _ hA.lR
  obtain ⟨W2,hW2⟩:∃ W2,putL wA 0 R oc ds=W2:=⟨_,rfl⟩
  rw [hW2] at hcp hP hbp
  obtain ⟨k,hk'⟩:∃ k,ds.length=k:=⟨_,rfl⟩
  have HK:=hid (And.intro hk' (And.intro hkn hk))
  have HD:=hid (And.intro h4 (And.intro h5 h6))
  have HBP:=hid hbp
  rw [hk'] at hsl hcp hkn ⊢
  have d0:=hP.c0
  have d1:=hP.c1
  have g0:=hP.f0
  have g1:=hP.f1
  have g2:=hP.f2
  have d2:=hP.c2
  have HP:=hid hP
  clear hA hk hk' h2 h3 h4 h5 h6 h7 hW2 hP hbp
  go_wp2_with fail
  go_region
  all_goals (go_wp2_with fail)
  go_end0
  have hB1:=(HB.out.mono (Nat.le_of_lt (Nat.lt_of_le_of_lt HH.out.lD HH.out.uD))).trans HBP.out
  have lD:=HH.out.lD
  refine ⟨ob,oc,oa,oe,m+2,k,la,le,zb,ds ++ zc.drop ds.length,za,ze,rfl,HP.out.turn3.drew,⟨HN.out.hlb,hkn,HN.out.tb,?_,HN.out.vb,?_,Nat.le_of_lt (Nat.mod_lt _ HPOS.out)⟩,(((hB1.setCell lD _).setCell lD _).setCell lD _).drew⟩
  ·rw [← HK.out.1,List.take_left];exact HD.out.2.1
  ·rw [← HK.out.1,List.take_left];exact HD.out.2.2
end
section
open Go.RowKit Go.Sort
theorem still_tail {P:Program} {id:Nat} {Q:Exit→Act→World→Prop} {a:Act} {w:World} {l:List Oper} (n:Nat) (hm:P.follows .mixedOrders=true) (hB:Region.lexTailB .any l.toArray n=true)
  (h:wpStill P l.toArray w.drew (fun a'=>wpList P l.toArray Q (l.drop n) a' w.drew) (l.take n) a):(Code.region id l.toArray true).wp P Q a w:=
 wp_region_still_tail n hm hB h
theorem diff_reg {W:World} {R n ox oy oi lx ly nn:Nat} (li p q:Nat) {zx zy zi:List Nat} (rx:Reg W R ox n zx) (ry:Reg W R oy n zy) (ri:Reg W R oi n zi) (sx:ox+n≤oi∨oi+n≤ox) (sy:oy+n≤oi∨oi+n≤oy)
  (hp:p<B64) (hq:q<B64) (hn:n≤1099511627776) (hnn:nn≤n) (hxn:lx≤nn) (hyn:ly≤nn) (hmax:nn=lx∨nn=ly) (hle:val (zy.take ly)*q≤val (zx.take lx)*p) (hlt:val (zx.take lx)*p - val (zy.take ly)*q<B64 ^ nn) :
  Calls Tryz.prog 215 #[.slice (some ⟨R,oi,none⟩) li n,.slice (some ⟨R,ox,none⟩) lx n,.int .u64 (p:Int),.slice (some ⟨R,oy,none⟩) ly n,.int .u64 (q:Int)] W (RetDiff W R oi n nn (val (zx.take lx)*p - val (zy.take ly)*q)):=by
 have hlx:(zx.take lx).length=lx:=by rw [List.length_take,rx.l];omega
 have hly:(zy.take ly).length=ly:=by rw [List.length_take,ry.l];omega
 have hlz:(zi.take nn).length=nn:=by rw [List.length_take,ri.l];omega
 exact difference_calls li R oi n lx R ox n p ly R oy n q nn (zi.take nn) (zx.take lx) (zy.take ly) W (ri.h.take _) (rx.h.take _).digs (ry.h.take _).digs (by right;omega) (by right;omega) (ri.d.take _) (rx.d.take _) (ry.d.take _) hp hq (by omega) hnn hlx hly hlz hxn hyn hmax hle hlt
theorem follow_odd (B0 D R n oa ob oc oe la lb lc le A B fA fB tA tB a2 b2:Nat) (za zb zc ze:List Nat) (w:World) (h:Desc B0 w D R n oa ob oc oe la lb lc le za zb zc ze) (hN:Nums n la lb za zb A B) (hn:n≤137438953472)
  (h1:fA<B64) (h2:fB<B64) (h3:tA<B64) (h4:tB<B64) (h5:fA*A≤fB*B) (h6:a2=fB*B - fA*A) (h7:tB*B≤tA*A) (h8:b2=tA*A - tB*B) (h9:b2<a2) (h10:a2≤B) :
  Calls Tryz.prog 160 #[.pointer (some ⟨D,0,none⟩),.agg #[.int .u64 fA,.int .u64 fB,.int .u64 tA,.int .u64 tB,.bool true]] w (RetDesc B0 w D R n a2 b2):=by
 have hle:=hN.len h.ra.l h.rb.l h.ra.d
 have hAlt:A<B64 ^ la:=by
  have:=val_lt (h.ra.d.take la)
  rw [hN.va,List.length_take,h.ra.l,Nat.min_eq_left hN.hla] at this
  exact this
 have hAB:=hN.le
 have hb:=(Below.refl w.heap.size w).alloc (Nat.le_refl _) (.cells #[.int .u64 (fA:Int),.int .u64 (fB:Int),.int .u64 (tA:Int),.int .u64 (tB:Int),.bool true] 240)
 have h':=h.below hb
 have HB:=hid hb
 have hne:¬ w.heap.size=D:=by have:=h.uD;omega
 have bx:C5 (w.alloc (.cells #[.int .u64 (fA:Int),.int .u64 (fB:Int),.int .u64 (tA:Int),.int .u64 (tB:Int),.bool true] 240)) w.heap.size (.int .u64 (fA:Int)) (.int .u64 (fB:Int)) (.int .u64 (tA:Int)) (.int .u64 (tB:Int)) (.bool true):=by
  refine ⟨?_,?_,?_,?_,?_⟩ <;> go_simp
 have hnb:w.heap.size≠R:=by have:=h.uR;omega
 have HX:=hid (And.intro h5 (And.intro h6 (And.intro h7 (And.intro h8 (And.intro h9 h10)))))
 have HF:=hid (And.intro h1 (And.intro h2 (And.intro h3 h4)))
 have HL:=hid (And.intro hle (And.intro hAlt hAB))
 have HN:=hid hN
 have lD:=h.lD
 have uD0:=hid h.uD
 clear h hN hb hle hAlt hAB h1 h2 h3 h4 h5 h6 h7 h8 h9 h10
 go_enter Tryz.func160,Tryz.ntmps160
 go_wp2_with fail
 obtain ⟨W1,hW1⟩:∃ W1,w.alloc (.cells #[.int .u64 (fA:Int),.int .u64 (fB:Int),.int .u64 (tA:Int),.int .u64 (tB:Int),.bool true] 240)=W1:=⟨_,rfl⟩
 rw [hW1] at HB h' bx ⊢
 have c0:=h'.c0
 have c1:=h'.c1
 have c2:=h'.c2
 have c3:=h'.c3
 obtain ⟨b0,b1,b2',b3,b4⟩:=bx
 have HH:=hid h'
 clear h' hW1
 refine still_tail 16 (by kernel_rfl) (by kernel_rfl) ?_
 simp only [List.take_succ_cons,List.take_zero,List.drop_succ_cons,List.drop_zero]
 repeat still_step
 refine wpStill_nil ?_
 go_wp2_with fail
 refine (diff_reg lc fB fA HH.out.drew.rb HH.out.drew.ra HH.out.drew.rc HH.out.sbc HH.out.sac HF.out.2.1 HF.out.1 (by omega) HN.out.hla HL.out.1 (Nat.le_refl _) (.inr rfl) ?_ ?_).mono ?_
 ·rw [HN.out.va,HN.out.vb,Nat.mul_comm A,Nat.mul_comm B];exact HX.out.1
 ·rw [HN.out.va,HN.out.vb,Nat.mul_comm A,Nat.mul_comm B,← HX.out.2.1];exact Nat.lt_of_le_of_lt (Nat.le_trans HX.out.2.2.2.2.2 HL.out.2.2) HL.out.2.1
 rintro e w' ⟨k1,q1,ds1,rfl,rfl,g1,g2,g3,g4⟩
 rw [HN.out.va,HN.out.vb,Nat.mul_comm A,Nat.mul_comm B,← HX.out.2.1] at g4
 have P2:=HH.out.drew.putC (q:=q1) (ds:=ds1) (by rw [g1];exact HN.out.hla) g2
 have hB2:=((HB.out.mono (Nat.le_of_lt (Nat.lt_of_le_of_lt lD uD0.out))).drew).trans (below_putL (B:=B0) W1.drew q1 _ oc ds1 P2.lR)
 have k0:=(cell_putL_other W1.drew q1 R oc ds1 ⟨w.heap.size,0,none⟩ (.inl hnb)).trans b0
 have k1':=(cell_putL_other W1.drew q1 R oc ds1 ⟨w.heap.size,1,none⟩ (.inl hnb)).trans b1
 have k2:=(cell_putL_other W1.drew q1 R oc ds1 ⟨w.heap.size,2,none⟩ (.inl hnb)).trans b2'
 have k3:=(cell_putL_other W1.drew q1 R oc ds1 ⟨w.heap.size,3,none⟩ (.inl hnb)).trans b3
 obtain ⟨W2,hW2⟩:∃ W2,putL W1.drew q1 R oc ds1=W2:=⟨_,rfl⟩
 rw [hW2] at P2 hB2 k0 k1' k2 k3 ⊢
 clear hW2 c0 c1 c2 c3 b0 b1 b2' b3 b4
 have HB2:=hid hB2
 have HG1:=hid (And.intro g1 (And.intro g2 (And.intro g3 g4)))
 have c0:=P2.c0
 have c1:=P2.c1
 have c2:=P2.c2
 have c3:=P2.c3
 have HP2:=hid P2
 clear P2 hB2 g1 g2 g3 g4
 go_wp2_with fail
 refine still_tail 16 (by kernel_rfl) (by kernel_rfl) ?_
 simp only [List.take_succ_cons,List.take_zero,List.drop_succ_cons,List.drop_zero]
 repeat still_step
 refine wpStill_nil ?_
 go_wp2_with fail
 refine (diff_reg le tA tB HP2.out.drew.ra HP2.out.drew.rb HP2.out.drew.re HP2.out.sae HP2.out.sbe HF.out.2.2.1 HF.out.2.2.2 (by omega) HN.out.hla (Nat.le_refl _) HL.out.1 (.inl rfl) ?_ ?_).mono ?_
 ·rw [HN.out.va,HN.out.vb,Nat.mul_comm A,Nat.mul_comm B];exact HX.out.2.2.1
 ·rw [HN.out.va,HN.out.vb,Nat.mul_comm A,Nat.mul_comm B,← HX.out.2.2.2.1];exact Nat.lt_trans HX.out.2.2.2.2.1 (Nat.lt_of_le_of_lt (Nat.le_trans HX.out.2.2.2.2.2 HL.out.2.2) HL.out.2.1)
 rintro e w' ⟨kk,q2,ds2,rfl,rfl,g1,g2,g3,g4⟩
 rw [HN.out.va,HN.out.vb,Nat.mul_comm A,Nat.mul_comm B,← HX.out.2.2.2.1] at g4
 have P3:=HP2.out.drew.putE (q:=q2) (ds:=ds2) (by rw [g1];exact HN.out.hla) g2
 have hB3:=HB2.out.drew.trans (below_putL (B:=B0) W2.drew q2 _ oe ds2 P3.lR)
 obtain ⟨W3,hW3⟩:∃ W3,putL W2.drew q2 R oe ds2=W3:=⟨_,rfl⟩
 rw [hW3] at P3 hB3 ⊢
 clear hW3 c0 c1 c2 c3 k0 k1' k2 k3
 have HB3:=hid hB3
 have HG2:=hid (And.intro g1 (And.intro g2 (And.intro g3 g4)))
 have c0:=P3.c0
 have c1:=P3.c1
 have c2:=P3.c2
 have c3:=P3.c3
 have f0:=P3.f0
 have f1:=P3.f1
 have f2:=P3.f2
 have f3:=P3.f3
 have HP3:=hid P3
 clear P3 hB3 g1 g2 g3 g4
 go_wp2_with fail
 go_region
 all_goals (go_wp2_with fail)
 go_end0
 refine ⟨oc,oe,oa,ob,k1,kk,la,lb,_,_,za,zb,rfl,HP3.out.turn4.drew,⟨Nat.le_trans HG1.out.2.2.1.1 (by rw [HG1.out.1];exact HN.out.hla),Nat.le_trans HG2.out.2.2.1.1 (by rw [HG2.out.1];exact HN.out.hla),?_,?_,?_,?_,Nat.le_of_lt HX.out.2.2.2.2.1⟩,((((HB3.out.setCell lD _).setCell lD _).setCell lD _).setCell lD _).drew⟩
 ·rw [List.take_append_of_le_length HG1.out.2.2.1.1];exact HG1.out.2.2.1.trimmed
 ·rw [List.take_append_of_le_length HG2.out.2.2.1.1];exact HG2.out.2.2.1.trimmed
 ·rw [List.take_append_of_le_length HG1.out.2.2.1.1,HG1.out.2.2.1.val];exact HG1.out.2.2.2
 ·rw [List.take_append_of_le_length HG2.out.2.2.1.1,HG2.out.2.2.1.val];exact HG2.out.2.2.2
theorem follow_even (B0 D R n oa ob oc oe la lb lc le A B fA fB tA tB a2 b2:Nat) (za zb zc ze:List Nat) (w:World) (h:Desc B0 w D R n oa ob oc oe la lb lc le za zb zc ze) (hN:Nums n la lb za zb A B) (hn:n≤137438953472)
  (h1:fA<B64) (h2:fB<B64) (h3:tA<B64) (h4:tB<B64) (h5:fB*B≤fA*A) (h6:a2=fA*A - fB*B) (h7:tA*A≤tB*B) (h8:b2=tB*B - tA*A) (h9:b2<a2) (h10:a2≤B) :
  Calls Tryz.prog 160 #[.pointer (some ⟨D,0,none⟩),.agg #[.int .u64 fA,.int .u64 fB,.int .u64 tA,.int .u64 tB,.bool false]] w (RetDesc B0 w D R n a2 b2):=by
 have hle:=hN.len h.ra.l h.rb.l h.ra.d
 have hAlt:A<B64 ^ la:=by
  have:=val_lt (h.ra.d.take la)
  rw [hN.va,List.length_take,h.ra.l,Nat.min_eq_left hN.hla] at this
  exact this
 have hAB:=hN.le
 have hb:=(Below.refl w.heap.size w).alloc (Nat.le_refl _) (.cells #[.int .u64 (fA:Int),.int .u64 (fB:Int),.int .u64 (tA:Int),.int .u64 (tB:Int),.bool false] 240)
 have h':=h.below hb
 have HB:=hid hb
 have hne:¬ w.heap.size=D:=by have:=h.uD;omega
 have bx:C5 (w.alloc (.cells #[.int .u64 (fA:Int),.int .u64 (fB:Int),.int .u64 (tA:Int),.int .u64 (tB:Int),.bool false] 240)) w.heap.size (.int .u64 (fA:Int)) (.int .u64 (fB:Int)) (.int .u64 (tA:Int)) (.int .u64 (tB:Int)) (.bool false):=by
  refine ⟨?_,?_,?_,?_,?_⟩ <;> go_simp
 have hnb:w.heap.size≠R:=by have:=h.uR;omega
 have HX:=hid (And.intro h5 (And.intro h6 (And.intro h7 (And.intro h8 (And.intro h9 h10)))))
 have HF:=hid (And.intro h1 (And.intro h2 (And.intro h3 h4)))
 have HL:=hid (And.intro hle (And.intro hAlt hAB))
 have HN:=hid hN
 have lD:=h.lD
 have uD0:=hid h.uD
 clear h hN hb hle hAlt hAB h1 h2 h3 h4 h5 h6 h7 h8 h9 h10
 go_enter Tryz.func160,Tryz.ntmps160
 go_wp2_with fail
 obtain ⟨W1,hW1⟩:∃ W1,w.alloc (.cells #[.int .u64 (fA:Int),.int .u64 (fB:Int),.int .u64 (tA:Int),.int .u64 (tB:Int),.bool false] 240)=W1:=⟨_,rfl⟩
 rw [hW1] at HB h' bx ⊢
 have c0:=h'.c0
 have c1:=h'.c1
 have c2:=h'.c2
 have c3:=h'.c3
 obtain ⟨b0,b1,b2',b3,b4⟩:=bx
 have HH:=hid h'
 clear h' hW1
 refine still_tail 16 (by kernel_rfl) (by kernel_rfl) ?_
 simp only [List.take_succ_cons,List.take_zero,List.drop_succ_cons,List.drop_zero]
 repeat still_step
 refine wpStill_nil ?_
 go_wp2_with fail
 refine (diff_reg lc fA fB HH.out.drew.ra HH.out.drew.rb HH.out.drew.rc HH.out.sac HH.out.sbc HF.out.1 HF.out.2.1 (by omega) HN.out.hla (Nat.le_refl _) HL.out.1 (.inl rfl) ?_ ?_).mono ?_
 ·rw [HN.out.va,HN.out.vb,Nat.mul_comm A,Nat.mul_comm B];exact HX.out.1
 ·rw [HN.out.va,HN.out.vb,Nat.mul_comm A,Nat.mul_comm B,← HX.out.2.1];exact Nat.lt_of_le_of_lt (Nat.le_trans HX.out.2.2.2.2.2 HL.out.2.2) HL.out.2.1
 rintro e w' ⟨k1,q1,ds1,rfl,rfl,g1,g2,g3,g4⟩
 rw [HN.out.va,HN.out.vb,Nat.mul_comm A,Nat.mul_comm B,← HX.out.2.1] at g4
 have P2:=HH.out.drew.putC (q:=q1) (ds:=ds1) (by rw [g1];exact HN.out.hla) g2
 have hB2:=((HB.out.mono (Nat.le_of_lt (Nat.lt_of_le_of_lt lD uD0.out))).drew).trans (below_putL (B:=B0) W1.drew q1 _ oc ds1 P2.lR)
 have k0:=(cell_putL_other W1.drew q1 R oc ds1 ⟨w.heap.size,0,none⟩ (.inl hnb)).trans b0
 have k1':=(cell_putL_other W1.drew q1 R oc ds1 ⟨w.heap.size,1,none⟩ (.inl hnb)).trans b1
 have k2:=(cell_putL_other W1.drew q1 R oc ds1 ⟨w.heap.size,2,none⟩ (.inl hnb)).trans b2'
 have k3:=(cell_putL_other W1.drew q1 R oc ds1 ⟨w.heap.size,3,none⟩ (.inl hnb)).trans b3
 obtain ⟨W2,hW2⟩:∃ W2,putL W1.drew q1 R oc ds1=W2:=⟨_,rfl⟩
 rw [hW2] at P2 hB2 k0 k1' k2 k3 ⊢
 clear hW2 c0 c1 c2 c3 b0 b1 b2' b3 b4
 have HB2:=hid hB2
 have HG1:=hid (And.intro g1 (And.intro g2 (And.intro g3 g4)))
 have c0:=P2.c0
 have c1:=P2.c1
 have c2:=P2.c2
 have c3:=P2.c3
 have HP2:=hid P2
 clear P2 hB2 g1 g2 g3 g4
 go_wp2_with fail
 refine still_tail 16 (by kernel_rfl) (by kernel_rfl) ?_
 simp only [List.take_succ_cons,List.take_zero,List.drop_succ_cons,List.drop_zero]
 repeat still_step
 refine wpStill_nil ?_
 go_wp2_with fail
 refine (diff_reg le tB tA HP2.out.drew.rb HP2.out.drew.ra HP2.out.drew.re HP2.out.sbe HP2.out.sae HF.out.2.2.2 HF.out.2.2.1 (by omega) HN.out.hla HL.out.1 (Nat.le_refl _) (.inr rfl) ?_ ?_).mono ?_
 ·rw [HN.out.va,HN.out.vb,Nat.mul_comm A,Nat.mul_comm B];exact HX.out.2.2.1
 ·rw [HN.out.va,HN.out.vb,Nat.mul_comm A,Nat.mul_comm B,← HX.out.2.2.2.1];exact Nat.lt_trans HX.out.2.2.2.2.1 (Nat.lt_of_le_of_lt (Nat.le_trans HX.out.2.2.2.2.2 HL.out.2.2) HL.out.2.1)
 rintro e w' ⟨kk,q2,ds2,rfl,rfl,g1,g2,g3,g4⟩
 rw [HN.out.va,HN.out.vb,Nat.mul_comm A,Nat.mul_comm B,← HX.out.2.2.2.1] at g4
 have P3:=HP2.out.drew.putE (q:=q2) (ds:=ds2) (by rw [g1];exact HN.out.hla) g2
 have hB3:=HB2.out.drew.trans (below_putL (B:=B0) W2.drew q2 _ oe ds2 P3.lR)
 obtain ⟨W3,hW3⟩:∃ W3,putL W2.drew q2 R oe ds2=W3:=⟨_,rfl⟩
 rw [hW3] at P3 hB3 ⊢
 clear hW3 c0 c1 c2 c3 k0 k1' k2 k3
 have HB3:=hid hB3
 have HG2:=hid (And.intro g1 (And.intro g2 (And.intro g3 g4)))
 have c0:=P3.c0
 have c1:=P3.c1
 have c2:=P3.c2
 have c3:=P3.c3
 have f0:=P3.f0
 have f1:=P3.f1
 have f2:=P3.f2
 have f3:=P3.f3
 have HP3:=hid P3
 clear P3 hB3 g1 g2 g3 g4
 go_wp2_with fail
 go_region
 all_goals (go_wp2_with fail)
 go_end0
 refine ⟨oc,oe,oa,ob,k1,kk,la,lb,_,_,za,zb,rfl,HP3.out.turn4.drew,⟨Nat.le_trans HG1.out.2.2.1.1 (by rw [HG1.out.1];exact HN.out.hla),Nat.le_trans HG2.out.2.2.1.1 (by rw [HG2.out.1];exact HN.out.hla),?_,?_,?_,?_,Nat.le_of_lt HX.out.2.2.2.2.1⟩,((((HB3.out.setCell lD _).setCell lD _).setCell lD _).setCell lD _).drew⟩
 ·rw [List.take_append_of_le_length HG1.out.2.2.1.1];exact HG1.out.2.2.1.trimmed
 ·rw [List.take_append_of_le_length HG2.out.2.2.1.1];exact HG2.out.2.2.1.trimmed
 ·rw [List.take_append_of_le_length HG1.out.2.2.1.1,HG1.out.2.2.1.val];exact HG1.out.2.2.2
 ·rw [List.take_append_of_le_length HG2.out.2.2.1.1,HG2.out.2.2.1.val];exact HG2.out.2.2.2
theorem follow_calls (B0 D R n oa ob oc oe la lb lc le A B fA fB tA tB:Nat) (od:Bool) (za zb zc ze:List Nat) (w:World) (h:Desc B0 w D R n oa ob oc oe la lb lc le za zb zc ze) (hN:Nums n la lb za zb A B) (hn:n≤137438953472)
  (hs:SimOut A B fA fB tA tB od) (hf:fB≠0) :
  ∃ a2 b2:Nat,b2<B∧Nat.gcd a2 b2=Nat.gcd A B∧Calls Tryz.prog 160 #[.pointer (some ⟨D,0,none⟩),.agg #[.int .u64 fA,.int .u64 fB,.int .u64 tA,.int .u64 tB,.bool od]] w (RetDesc B0 w D R n a2 b2):=by
 obtain ⟨h1,h2,h3,h4,h5⟩:=hs
 obtain ⟨a2,b2,k1,k2,k3,k4⟩:=h5 hf
 refine ⟨a2,b2,by omega,k3,?_⟩
 cases od
 ·rw [if_neg (by simp)] at k4
  obtain ⟨m1,m2,m3,m4⟩:=k4
  exact follow_even B0 D R n oa ob oc oe la lb lc le A B fA fB tA tB a2 b2 za zb zc ze w h hN hn h1 h2 h3 h4 m1 m2 m3 m4 k1 k2
 ·rw [if_pos rfl] at k4
  obtain ⟨m1,m2,m3,m4⟩:=k4
  exact follow_odd B0 D R n oa ob oc oe la lb lc le A B fA fB tA tB a2 b2 za zb zc ze w h hN hn h1 h2 h3 h4 m1 m2 m3 m4 k1 k2
end
section
theorem amgm (u v m:Nat) (h:u+v≤2*m):u*v≤m*m:=by
 have h1:(u+v)*(u+v)≤(2*m)*(2*m):=Nat.mul_le_mul h h
 have h2:4*(u*v)≤(u+v)*(u+v):=by
  rcases Nat.le_total u v with hh | hh
  ·obtain ⟨d,rfl⟩:=Nat.exists_eq_add_of_le hh
   have:(u+(u+d))*(u+(u+d))=4*(u*(u+d))+d*d:=by grind
   omega
  ·obtain ⟨d,rfl⟩:=Nat.exists_eq_add_of_le hh
   have:(v+d+v)*(v+d+v)=4*((v+d)*v)+d*d:=by grind
   omega
 have h3:(2*m)*(2*m)=4*(m*m):=by grind
 omega
theorem newton_ge (a x:Nat) (hx:1≤x):a<((a / x+x) / 2+1)*((a / x+x) / 2+1):=by
 have h1:a<(a / x+1)*x:=by
  rw [Nat.add_mul,Nat.one_mul]
  exact Nat.lt_div_mul_add hx
 have h2:=amgm (a / x+1) x ((a / x+x) / 2+1) (by omega)
 omega
theorem newton_stop (a x:Nat) (hx:1≤x) (h:x≤(a / x+x) / 2):x*x≤a:=by
 have h1:x≤a / x:=by omega
 rw [Nat.le_div_iff_mul_le hx] at h1
 exact h1
theorem newton_pos (a x:Nat) (ha:1≤a) (hx:1≤x) (_h:(a / x+x) / 2<x):1≤(a / x+x) / 2:=by
 rcases Nat.lt_or_ge a x with h | h
 ·have:a / x=0:=Nat.div_eq_of_lt h
  omega
 ·have:1≤a / x:=by rw [Nat.le_div_iff_mul_le hx];omega
  omega
theorem root_unique (a r s:Nat) (h1:r*r≤a) (h2:a<(r+1)*(r+1)) (h3:s*s≤a) (h4:a<(s+1)*(s+1)):r=s:=by
 rcases Nat.lt_trichotomy r s with h | h | h
 ·have:=Nat.mul_le_mul (show r+1≤s from h) (show r+1≤s from h)
  omega
 ·exact h
 ·have:=Nat.mul_le_mul (show s+1≤r from h) (show s+1≤r from h)
  omega
theorem gcd_two_pow_odd (a m k:Nat) (ha:a % 2=1):Nat.gcd a (2 ^ k*m)=Nat.gcd a m:=by
 induction k with
 | zero=>simp
 | succ k ih =>
  rw [Nat.pow_succ,Nat.mul_comm (2 ^ k) 2,Nat.mul_assoc,Nat.Coprime.gcd_mul_left_cancel_right]
  ·exact ih
  ·rw [Nat.Coprime,Nat.gcd_rec,ha,Nat.gcd_one_left]
theorem gcd_freed (i j m n:Nat) (hm:m % 2=1) (hn:n % 2=1):Nat.gcd (2 ^ i*m) (2 ^ j*n)=2 ^ (min i j)*Nat.gcd m n:=by
 rcases Nat.le_total i j with h | h
 ·obtain ⟨d,rfl⟩:=Nat.exists_eq_add_of_le h
  rw [Nat.min_eq_left h,Nat.pow_add,Nat.mul_assoc,Nat.gcd_mul_left,gcd_two_pow_odd m n d hm]
 ·obtain ⟨d,rfl⟩:=Nat.exists_eq_add_of_le h
  rw [Nat.min_eq_right h,Nat.pow_add,Nat.mul_assoc,Nat.gcd_mul_left,Nat.gcd_comm,gcd_two_pow_odd n m d hn,Nat.gcd_comm]
theorem gcd_sub_odd (a b:Nat) (h:a≤b):Nat.gcd a (b - a)=Nat.gcd a b:=by
 rw [Nat.gcd_sub_self_right h]
end
section
theorem ctz_spec (x:Nat) (h0:x≠0) (h:x<B64):∃ m,x=2 ^ Lib.ctz 64 x*(2*m+1)∧Lib.ctz 64 x<64:=by
 have e:Lib.ctz 64 x=Lib.ctzFrom 64 x:=by simp [Lib.ctz,h0]
 rw [e]
 exact Lib.ctzFrom_spec 64 x (by omega) (by unfold B64 at h;omega)
theorem pow_dvd_iff {k j m:Nat}:2 ^ k∣2 ^ j*(2*m+1)↔k≤j:=by
 constructor
 ·intro h
  rcases Nat.lt_or_ge j k with h1 | h1
  ·exfalso
   obtain ⟨d,rfl⟩:=Nat.exists_eq_add_of_lt h1
   obtain ⟨c,hc⟩:=h
   rw [show j+d+1=j+(d+1) from rfl,Nat.pow_add,Nat.mul_assoc] at hc
   have:=Nat.eq_of_mul_eq_mul_left (Nat.two_pow_pos j) hc
   rw [Nat.pow_succ,Nat.mul_comm (2 ^ d) 2,Nat.mul_assoc] at this
   omega
  ·exact h1
 ·intro h
  obtain ⟨d,rfl⟩:=Nat.exists_eq_add_of_le h
  rw [Nat.pow_add,Nat.mul_assoc]
  exact Nat.dvd_mul_right _ _
theorem dvd_or (k a b:Nat):2 ^ k∣(a ||| b)↔2 ^ k∣a∧2 ^ k∣b:=by
 rw [Nat.dvd_iff_mod_eq_zero,Nat.dvd_iff_mod_eq_zero,Nat.dvd_iff_mod_eq_zero,Nat.or_mod_two_pow,Nat.or_eq_zero_iff]
theorem ctz_or (a b:Nat) (ha:a≠0) (hb:b≠0) (ha1:a<B64) (hb1:b<B64):Lib.ctz 64 (a ||| b)=min (Lib.ctz 64 a) (Lib.ctz 64 b):=by
 have hor:(a ||| b)<B64:=Nat.or_lt_two_pow (n:=64) (by unfold B64 at ha1;omega) (by unfold B64 at hb1;omega)
 have h0:(a ||| b)≠0:=by rw [Ne,Nat.or_eq_zero_iff];omega
 obtain ⟨m,hm,hm1⟩:=ctz_spec _ h0 hor
 obtain ⟨i,hi,hi1⟩:=ctz_spec a ha ha1
 obtain ⟨j,hj,hj1⟩:=ctz_spec b hb hb1
 have key:∀ k,k≤Lib.ctz 64 (a ||| b)↔k≤Lib.ctz 64 a∧k≤Lib.ctz 64 b:=fun k=>by
  have:=dvd_or k a b
  generalize hx:Lib.ctz 64 (a ||| b)=x at *
  generalize hy:Lib.ctz 64 a=y at *
  generalize hz:Lib.ctz 64 b=z at *
  rw [← pow_dvd_iff (m:=m),← pow_dvd_iff (m:=i),← pow_dvd_iff (m:=j),← hm,← hi,← hj,this]
 have k1:=(key (Lib.ctz 64 (a ||| b))).1 (Nat.le_refl _)
 have k2:=(key (min (Lib.ctz 64 a) (Lib.ctz 64 b))).2 (by omega)
 omega
def oddw (x:Nat):Nat:=x / 2 ^ Lib.ctz 64 x
theorem oddw_spec (x:Nat) (h0:x≠0) (h:x<B64):x=2 ^ Lib.ctz 64 x*oddw x∧oddw x % 2=1∧1≤oddw x∧oddw x≤x:=by
 obtain ⟨m,hm,_⟩:=ctz_spec x h0 h
 have e:oddw x=2*m+1:=by
  unfold oddw
  generalize Lib.ctz 64 x=k at *
  rw [hm,Nat.mul_div_cancel_left _ (Nat.two_pow_pos _)]
 have:oddw x≤x:=Nat.div_le_self _ _
 refine ⟨?_,by omega,by omega,this⟩
 rw [e]
 exact hm
structure WG (g a b:Nat):Prop where
 odd:a % 2=1
 gcd:Nat.gcd a b=g
theorem WG.start (a b:Nat) (ha:a≠0) (hb:b≠0) (ha1:a<B64) (hb1:b<B64):WG (Nat.gcd (oddw a) (oddw b)) (oddw a) b:=by
 obtain ⟨h1,h2,_,_⟩:=oddw_spec a ha ha1
 obtain ⟨k1,k2,_,_⟩:=oddw_spec b hb hb1
 refine ⟨h2,?_⟩
 generalize Lib.ctz 64 b=k at *
 conv=>lhs;rw [k1]
 exact gcd_two_pow_odd _ _ _ h2
theorem WG.step {g a b:Nat} (h:WG g a b) (hb:b≠0) (hb1:b<B64) :
  (a≤oddw b→WG g a (oddw b - a))∧(oddw b<a→WG g (oddw b) (a - oddw b)):=by
 obtain ⟨k1,k2,_,_⟩:=oddw_spec b hb hb1
 have e:Nat.gcd a (oddw b)=g:=by
  rw [← h.gcd]
  generalize Lib.ctz 64 b=k at *
  conv=>rhs;rw [k1]
  exact (gcd_two_pow_odd _ _ _ h.odd).symm
 constructor
 ·intro hle
  exact ⟨h.odd,by rw [gcd_sub_odd _ _ hle,e]⟩
 ·intro hlt
  exact ⟨k2,by rw [gcd_sub_odd _ _ (by omega),Nat.gcd_comm,e]⟩
theorem gcd_words (a b:Nat) (ha:a≠0) (hb:b≠0) (ha1:a<B64) (hb1:b<B64) :
  Nat.gcd a b=Nat.gcd (oddw a) (oddw b)*2 ^ Lib.ctz 64 (a ||| b):=by
 obtain ⟨h1,h2,_,_⟩:=oddw_spec a ha ha1
 obtain ⟨k1,k2,_,_⟩:=oddw_spec b hb hb1
 rw [ctz_or a b ha hb ha1 hb1]
 generalize Lib.ctz 64 b=k at *
 generalize Lib.ctz 64 a=j at *
 conv=>lhs;rw [h1,k1]
 rw [gcd_freed _ _ _ _ h2 k2,Nat.mul_comm]
theorem or_lt (a b:Nat) (ha:a<B64) (hb:b<B64):(a ||| b)<B64:=
 Nat.or_lt_two_pow (n:=64) (by unfold B64 at ha;omega) (by unfold B64 at hb;omega)
end
section
open Go.RowKit
def Tab (w:World):Prop:=0<w.heap.size∧TabAt 0 Lib.deBruijn64tab w
theorem Tab.below {B:Nat} {w w':World} (h:Tab w) (hb:Below B w w') (hB:w.heap.size≤B):Tab w':=
 ⟨by have:=hb.size;have:=h.1;omega,fun j hj=>(hb.cell (p:=⟨0,j,none⟩) (by have:=h.1;simp only;omega)).trans (h.2 j hj)⟩
theorem tz_core (x k idx:Nat) (w:World) (hx0:((x:Int) == 0)=false)
  (key:IntKind.u64.wrap (bits BinOp.and IntKind.u64 (x:Int) (IntKind.u64.wrap (-(x:Int)))*285870213051353865) / 288230376151711744=(idx:Int))
  (hi:idx<64) (hk:k<64) (hcell:w.cell? ⟨0,idx,none⟩=some (.int .u8 k)) :
  Calls Tryz.prog 156 #[.int .u64 x] w fun e w'=>e=.returned (.int .i64 k)∧w=w':=by
 go_enter Tryz.func156,Tryz.ntmps156
 go_wp2_with (simp only [key])
 go_ret
 exact ⟨rfl,rfl⟩
theorem tz_calls (x:Nat) (hx:x<B64) (h0:x≠0) (w:World) (hT:Tab w) :
  Calls Tryz.prog 156 #[.int .u64 (x:Int)] w fun e w'=>e=.returned (.int .i64 ((Lib.ctz 64 x:Nat):Int))∧w=w':=by
 unfold B64 at hx
 obtain ⟨hlow,hk⟩:=Lib.lowest_bit 64 x h0 hx
 obtain ⟨hi,htab⟩:=Lib.deBruijn64_at _ hk
 have hcell:=hT.2 _ hi
 rw [htab] at hcell
 exact tz_core x _ _ w (by rw [beq_eq_false_iff_ne];omega) (tz64_key x _ hx h0 hlow) hi hk hcell
end
section
open Go.RowKit
theorem WG.pos {g a b:Nat} (h:WG g a b):1≤a:=by have:=h.odd;omega
def WGR (G:Nat) (av bv:Value):Prop:=∃ x y:Nat,av=.int .u64 x∧bv=.int .u64 y∧1≤x∧x<B64∧y<B64∧WG G x y
theorem shl_word (g t:Nat) (h:g*2 ^ t<B64):IntKind.u64.wrap ((g:Int)*2 ^ t)=((g*2 ^ t:Nat):Int):=by
 rw [show (g:Int)*2 ^ t=((g*2 ^ t:Nat):Int) by push_cast;rfl,wrap_nat,Nat.mod_eq_of_lt h]
theorem shr_word (x:Nat):(x:Int) / 2 ^ Lib.ctz 64 x=((oddw x:Nat):Int):=by
 unfold oddw
 push_cast
 rfl
theorem wordGcd_calls (a b:Nat) (w:World) (ha:a<B64) (hb:b<B64) (ha0:a≠0) (hb0:b≠0) (hT:Tab w) :
  Calls Tryz.prog 102 #[.int .u64 (a:Int),.int .u64 (b:Int)] w fun e w'=>e=.returned (.int .u64 ((Nat.gcd a b:Nat):Int))∧w=w':=by
 have hg:=gcd_words a b ha0 hb0 ha hb
 have hst:=WG.start a b ha0 hb0 ha hb
 have hor:(a ||| b)≠0:=by rw [Ne,Nat.or_eq_zero_iff];omega
 have hc1:Lib.ctz 64 (a ||| b)≤63:=by have:=(Lib.lowest_bit 64 (a ||| b) hor (by have:=or_lt a b ha hb;unfold B64 at this;omega)).2;omega
 have hc2:Lib.ctz 64 a≤63:=by have:=(Lib.lowest_bit 64 a ha0 (by unfold B64 at ha;omega)).2;omega
 have T1:=hid (tz_calls (a ||| b) (or_lt a b ha hb) hor w hT)
 have T2:=hid (tz_calls a ha ha0 w hT)
 have hbor:=bits_or_nat a b ha hb
 have hsr:=shr_word a
 have hgl:Nat.gcd a b<B64:=Nat.lt_of_le_of_lt (Nat.gcd_le_left b (by omega)) ha
 have hol:=(oddw_spec a ha0 ha).2.2
 rw [hg] at hgl
 have HF:=hid (shl_word _ _ hgl)
 rw [hg]
 obtain ⟨G,hG⟩:∃ G,Nat.gcd (oddw a) (oddw b)=G:=⟨_,rfl⟩
 rw [hG] at hst HF ⊢
 obtain ⟨t,ht⟩:∃ t,Lib.ctz 64 (a ||| b)=t:=⟨_,rfl⟩
 rw [ht] at HF T1 hc1 ⊢
 obtain ⟨oa,ho⟩:∃ oa,oddw a=oa:=⟨_,rfl⟩
 rw [ho] at hst hsr hol
 obtain ⟨sa,hsa⟩:∃ sa,Lib.ctz 64 a=sa:=⟨_,rfl⟩
 rw [hsa] at T2 hc2 hsr
 obtain ⟨ab,hab⟩:∃ ab,(a ||| b)=ab:=⟨_,rfl⟩
 rw [hab] at T1 hbor
 have HST:=hid hst
 have hol2:oa<B64:=by omega
 have HL:=hid (And.intro hol2 hb)
 have HT:=hid hT
 clear hg hst hor hG ht ho hsa hab hT ha hb ha0 hb0 hgl hol hol2
 go_enter Tryz.func102,Tryz.ntmps102
 go_wp2_with fail
 refine (T1.out).mono ?_
 rintro e w' ⟨rfl,rfl⟩
 go_wp2_with fail
 refine (T2.out).mono ?_
 rintro e w' ⟨rfl,rfl⟩
 go_wp2_with fail
 go_loop [0,1] (fun av bv=>WGR G av bv) (fun av bv=>(intOf av).toNat+(intOf bv).toNat)
 case atStart=>exact ⟨oa,b,rfl,rfl,HST.out.pos,HL.out.1,HL.out.2,HST.out⟩
 case round =>
  obtain ⟨x,y,rfl,rfl,hx1,hx,hy,hI⟩:=hrel
  by_cases hy0:y=0
  ·subst hy0
   have hxG:x=G:=by have:=hI.gcd;rw [Nat.gcd_zero_right] at this;exact this
   have HI:=hid hI
   clear hI hx hy
   subst hxG
   have hf:=HF.out
   have t0:(((0:Nat):Int) != 0)=false:=rfl
   go_wp2_with fail
   go_ret
   exact ⟨rfl,rfl⟩
  ·obtain ⟨s1,s2⟩:=hI.step hy0 hy
   obtain ⟨-,o2,o3,o4⟩:=oddw_spec y hy0 hy
   have T3:=hid (tz_calls y hy hy0 w HT.out)
   have hs3:=shr_word y
   have hc3:Lib.ctz 64 y≤63:=by have:=(Lib.lowest_bit 64 y hy0 (by unfold B64 at hy;omega)).2;omega
   obtain ⟨c,hc⟩:∃ c,Lib.ctz 64 y=c:=⟨_,rfl⟩
   rw [hc] at T3 hs3 hc3
   obtain ⟨z,hz⟩:∃ z,oddw y=z:=⟨_,rfl⟩
   rw [hz] at hs3 s1 s2 o2 o3 o4
   have t0:((y:Int) != 0)=true:=by rw [bne_iff_ne];omega
   have HS:=hid (And.intro s1 s2)
   have HL2:=hid (And.intro hx hy)
   have HW:=hid (And.intro (fun h:z<x=>sub_word x z (by omega) HL2.out.1) (fun h:¬ z<x=>sub_word z x (by omega) (by have:=HL2.out.2;omega)))
   clear s1 s2 hI hc hz o2 hx hy
   by_cases hlt:z<x
   ·have hw:=HW.out.1 hlt
    go_wp2_with fail
    refine (T3.out).mono ?_
    rintro e w' ⟨rfl,rfl⟩
    go_wp2_with fail
    go_round
    case rel=>exact ⟨z,x - z,rfl,by go_num,by omega,by have:=HL2.out.1;omega,by have:=HL2.out.1;omega,HS.out.2 hlt⟩
    case measure=>simp [intOf];omega
   ·have hw:=HW.out.2 hlt
    go_wp2_with (go_at_call 156;refine (T3.out).mono ?_;rintro e w' ⟨rfl,rfl⟩)
    go_round
    case rel=>exact ⟨x,z - x,rfl,by go_num,by omega,by have:=HL2.out.1;omega,by have:=HL2.out.2;omega,HS.out.1 (by omega)⟩
    case measure=>simp [intOf];omega
end
end Go.Proofs.YtmijlcldmefggaaGreatDoor
