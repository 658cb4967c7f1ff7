/- What the proof rests on, part 8. -/
import Derived.Test.YtancpaiaoamjlaaGreatDoorZ07
import Derived.Lib.TrailingZeros
import Derived.Test.YtancpaiaoamjlaaGreatDoorZ00
import Derived.Test.YtancpaiaoamjlaaGreatDoorZ01
import Derived.Shelf.Spec.TrailingZeros
namespace Go.Proofs.YtancpaiaoamjlaaGreatDoor
set_option maxRecDepth 100000
set_option maxHeartbeats 80000000
section
open Go.RowKit Go.Sort
theorem Aw {P:Program} {id:Nat} {Q:Exit→Act→World→Prop} {a:Act} {w:World} {l:List Oper} (n:Nat) (hm:P.follows .mixedOrders=true) (hB:Region.lexTailB .any l.toArray n=true)
  (h:wpStill P l.toArray w.drew (fun a'=>wpList P l.toArray Q (l.drop n) a' w.drew) (l.take n) a):(Code.region id l.toArray true).wp P Q a w:=
 wp_region_still_tail n hm hB h
theorem yG {W:World} {R n ox oy oi lx ly nn:Nat} (li p q:Nat) {zx zy zi:List Nat} (rx:Reg W R ox n zx) (ry:Reg W R oy n zy) (ri:Reg W R oi n zi) (sx:ox+n≤oi∨oi+n≤ox) (sy:oy+n≤oi∨oi+n≤oy)
  (hp:p<B64) (hq:q<B64) (hn:n≤1099511627776) (hnn:nn≤n) (hxn:lx≤nn) (hyn:ly≤nn) (hmax:nn=lx∨nn=ly) (hle:val (zy.take ly)*q≤val (zx.take lx)*p) (hlt:val (zx.take lx)*p - val (zy.take ly)*q<B64 ^ nn) :
  Calls Tryz.prog 134 #[.slice (some ⟨R,oi,none⟩) li n,.slice (some ⟨R,ox,none⟩) lx n,.int .u64 (p:Int),.slice (some ⟨R,oy,none⟩) ly n,.int .u64 (q:Int)] W (Hu W R oi n nn (val (zx.take lx)*p - val (zy.take ly)*q)):=by
 have hlx:(zx.take lx).length=lx:=by rw [List.length_take,rx.l];omega
 have hly:(zy.take ly).length=ly:=by rw [List.length_take,ry.l];omega
 have hlz:(zi.take nn).length=nn:=by rw [List.length_take,ri.l];omega
 exact Sv li R oi n lx R ox n p ly R oy n q nn (zi.take nn) (zx.take lx) (zy.take ly) W (ri.h.take _) (rx.h.take _).aK (ry.h.take _).aK (by right;omega) (by right;omega) (ri.d.take _) (rx.d.take _) (ry.d.take _) hp hq (by omega) hnn hlx hly hlz hxn hyn hmax hle hlt
theorem Um (B0 D R n oa ob oc oe la lb lc le A B fA fB tA tB a2 b2:Nat) (za zb zc ze:List Nat) (w:World) (h:bK B0 w D R n oa ob oc oe la lb lc le za zb zc ze) (hN:Nums n la lb za zb A B) (hn:n≤137438953472)
  (h1:fA<B64) (h2:fB<B64) (h3:tA<B64) (h4:tB<B64) (h5:fA*A≤fB*B) (h6:a2=fB*B - fA*A) (h7:tB*B≤tA*A) (h8:b2=tA*A - tB*B) (h9:b2<a2) (h10:a2≤B) :
  Calls Tryz.prog 113 #[.pointer (some ⟨D,0,none⟩),.agg #[.int .u64 fA,.int .u64 fB,.int .u64 tA,.int .u64 tB,.bool true]] w (xq B0 w D R n a2 b2):=by
 have hle:=hN.len h.ra.l h.rb.l h.ra.d
 have hAlt:A<B64 ^ la:=by
  have:=aV (h.ra.d.take la)
  rw [hN.va,List.length_take,h.ra.l,Nat.min_eq_left hN.hla] at this
  exact this
 have hAB:=hN.le
 have hb:=(Below.refl w.heap.size w).alloc (Nat.le_refl _) (.cells #[.int .u64 (fA:Int),.int .u64 (fB:Int),.int .u64 (tA:Int),.int .u64 (tB:Int),.bool true] 127)
 have h':=h.below hb
 have HB:=hid hb
 have hne:¬ w.heap.size=D:=by have:=h.uD;omega
 have bx:C5 (w.alloc (.cells #[.int .u64 (fA:Int),.int .u64 (fB:Int),.int .u64 (tA:Int),.int .u64 (tB:Int),.bool true] 127)) w.heap.size (.int .u64 (fA:Int)) (.int .u64 (fB:Int)) (.int .u64 (tA:Int)) (.int .u64 (tB:Int)) (.bool true):=by
  refine ⟨?_,?_,?_,?_,?_⟩ <;> go_simp
 have hnb:w.heap.size≠R:=by have:=h.uR;omega
 have HX:=hid (And.intro h5 (And.intro h6 (And.intro h7 (And.intro h8 (And.intro h9 h10)))))
 have HF:=hid (And.intro h1 (And.intro h2 (And.intro h3 h4)))
 have HL:=hid (And.intro hle (And.intro hAlt hAB))
 have HN:=hid hN
 have lD:=h.lD
 have uD0:=hid h.uD
 clear h hN hb hle hAlt hAB h1 h2 h3 h4 h5 h6 h7 h8 h9 h10
 go_enter Tryz.func113,Tryz.ntmps113
 go_wp2_with fail
 obtain ⟨W1,hW1⟩:∃ W1,w.alloc (.cells #[.int .u64 (fA:Int),.int .u64 (fB:Int),.int .u64 (tA:Int),.int .u64 (tB:Int),.bool true] 127)=W1:=⟨_,rfl⟩
 rw [hW1] at HB h' bx ⊢
 have c0:=h'.c0
 have c1:=h'.c1
 have c2:=h'.c2
 have c3:=h'.c3
 obtain ⟨b0,b1,b2',b3,b4⟩:=bx
 have HH:=hid h'
 clear h' hW1
 refine Aw 16 (by kernel_rfl) (by kernel_rfl) ?_
 simp only [List.take_succ_cons,List.take_zero,List.drop_succ_cons,List.drop_zero]
 repeat still_step
 refine wpStill_nil ?_
 go_wp2_with fail
 refine (yG lc fB fA HH.out.drew.rb HH.out.drew.ra HH.out.drew.rc HH.out.sbc HH.out.sac HF.out.2.1 HF.out.1 (by omega) HN.out.hla HL.out.1 (Nat.le_refl _) (.inr rfl) ?_ ?_).mono ?_
 ·rw [HN.out.va,HN.out.vb,Nat.mul_comm A,Nat.mul_comm B];exact HX.out.1
 ·rw [HN.out.va,HN.out.vb,Nat.mul_comm A,Nat.mul_comm B,← HX.out.2.1];exact Nat.lt_of_le_of_lt (Nat.le_trans HX.out.2.2.2.2.2 HL.out.2.2) HL.out.2.1
 rintro e w' ⟨k1,q1,ds1,rfl,rfl,g1,g2,g3,g4⟩
 rw [HN.out.va,HN.out.vb,Nat.mul_comm A,Nat.mul_comm B,← HX.out.2.1] at g4
 have P2:=HH.out.drew.putC (q:=q1) (ds:=ds1) (by rw [g1];exact HN.out.hla) g2
 have hB2:=((HB.out.mono (Nat.le_of_lt (Nat.lt_of_le_of_lt lD uD0.out))).drew).trans (dV (B:=B0) W1.drew q1 _ oc ds1 P2.lR)
 have k0:=(dB W1.drew q1 R oc ds1 ⟨w.heap.size,0,none⟩ (.inl hnb)).trans b0
 have k1':=(dB W1.drew q1 R oc ds1 ⟨w.heap.size,1,none⟩ (.inl hnb)).trans b1
 have k2:=(dB W1.drew q1 R oc ds1 ⟨w.heap.size,2,none⟩ (.inl hnb)).trans b2'
 have k3:=(dB W1.drew q1 R oc ds1 ⟨w.heap.size,3,none⟩ (.inl hnb)).trans b3
 obtain ⟨W2,hW2⟩:∃ W2,aj W1.drew q1 R oc ds1=W2:=⟨_,rfl⟩
 rw [hW2] at P2 hB2 k0 k1' k2 k3 ⊢
 clear hW2 c0 c1 c2 c3 b0 b1 b2' b3 b4
 have HB2:=hid hB2
 have HG1:=hid (And.intro g1 (And.intro g2 (And.intro g3 g4)))
 have c0:=P2.c0
 have c1:=P2.c1
 have c2:=P2.c2
 have c3:=P2.c3
 have HP2:=hid P2
 clear P2 hB2 g1 g2 g3 g4
 go_wp2_with fail
 refine Aw 16 (by kernel_rfl) (by kernel_rfl) ?_
 simp only [List.take_succ_cons,List.take_zero,List.drop_succ_cons,List.drop_zero]
 repeat still_step
 refine wpStill_nil ?_
 go_wp2_with fail
 refine (yG le tA tB HP2.out.drew.ra HP2.out.drew.rb HP2.out.drew.re HP2.out.sae HP2.out.sbe HF.out.2.2.1 HF.out.2.2.2 (by omega) HN.out.hla (Nat.le_refl _) HL.out.1 (.inl rfl) ?_ ?_).mono ?_
 ·rw [HN.out.va,HN.out.vb,Nat.mul_comm A,Nat.mul_comm B];exact HX.out.2.2.1
 ·rw [HN.out.va,HN.out.vb,Nat.mul_comm A,Nat.mul_comm B,← HX.out.2.2.2.1];exact Nat.lt_trans HX.out.2.2.2.2.1 (Nat.lt_of_le_of_lt (Nat.le_trans HX.out.2.2.2.2.2 HL.out.2.2) HL.out.2.1)
 rintro e w' ⟨kk,q2,ds2,rfl,rfl,g1,g2,g3,g4⟩
 rw [HN.out.va,HN.out.vb,Nat.mul_comm A,Nat.mul_comm B,← HX.out.2.2.2.1] at g4
 have P3:=HP2.out.drew.putE (q:=q2) (ds:=ds2) (by rw [g1];exact HN.out.hla) g2
 have hB3:=HB2.out.drew.trans (dV (B:=B0) W2.drew q2 _ oe ds2 P3.lR)
 obtain ⟨W3,hW3⟩:∃ W3,aj W2.drew q2 R oe ds2=W3:=⟨_,rfl⟩
 rw [hW3] at P3 hB3 ⊢
 clear hW3 c0 c1 c2 c3 k0 k1' k2 k3
 have HB3:=hid hB3
 have HG2:=hid (And.intro g1 (And.intro g2 (And.intro g3 g4)))
 have c0:=P3.c0
 have c1:=P3.c1
 have c2:=P3.c2
 have c3:=P3.c3
 have f0:=P3.f0
 have f1:=P3.f1
 have f2:=P3.f2
 have f3:=P3.f3
 have HP3:=hid P3
 clear P3 hB3 g1 g2 g3 g4
 go_wp2_with fail
 go_region
 all_goals (go_wp2_with fail)
 go_end0
 refine ⟨oc,oe,oa,ob,k1,kk,la,lb,_,_,za,zb,rfl,HP3.out.turn4.drew,⟨Nat.le_trans HG1.out.2.2.1.1 (by rw [HG1.out.1];exact HN.out.hla),Nat.le_trans HG2.out.2.2.1.1 (by rw [HG2.out.1];exact HN.out.hla),?_,?_,?_,?_,Nat.le_of_lt HX.out.2.2.2.2.1⟩,((((HB3.out.setCell lD _).setCell lD _).setCell lD _).setCell lD _).drew⟩
 ·rw [List.take_append_of_le_length HG1.out.2.2.1.1];exact HG1.out.2.2.1.trimmed
 ·rw [List.take_append_of_le_length HG2.out.2.2.1.1];exact HG2.out.2.2.1.trimmed
 ·rw [List.take_append_of_le_length HG1.out.2.2.1.1,HG1.out.2.2.1.val];exact HG1.out.2.2.2
 ·rw [List.take_append_of_le_length HG2.out.2.2.1.1,HG2.out.2.2.1.val];exact HG2.out.2.2.2
theorem Ul (B0 D R n oa ob oc oe la lb lc le A B fA fB tA tB a2 b2:Nat) (za zb zc ze:List Nat) (w:World) (h:bK B0 w D R n oa ob oc oe la lb lc le za zb zc ze) (hN:Nums n la lb za zb A B) (hn:n≤137438953472)
  (h1:fA<B64) (h2:fB<B64) (h3:tA<B64) (h4:tB<B64) (h5:fB*B≤fA*A) (h6:a2=fA*A - fB*B) (h7:tA*A≤tB*B) (h8:b2=tB*B - tA*A) (h9:b2<a2) (h10:a2≤B) :
  Calls Tryz.prog 113 #[.pointer (some ⟨D,0,none⟩),.agg #[.int .u64 fA,.int .u64 fB,.int .u64 tA,.int .u64 tB,.bool false]] w (xq B0 w D R n a2 b2):=by
 have hle:=hN.len h.ra.l h.rb.l h.ra.d
 have hAlt:A<B64 ^ la:=by
  have:=aV (h.ra.d.take la)
  rw [hN.va,List.length_take,h.ra.l,Nat.min_eq_left hN.hla] at this
  exact this
 have hAB:=hN.le
 have hb:=(Below.refl w.heap.size w).alloc (Nat.le_refl _) (.cells #[.int .u64 (fA:Int),.int .u64 (fB:Int),.int .u64 (tA:Int),.int .u64 (tB:Int),.bool false] 127)
 have h':=h.below hb
 have HB:=hid hb
 have hne:¬ w.heap.size=D:=by have:=h.uD;omega
 have bx:C5 (w.alloc (.cells #[.int .u64 (fA:Int),.int .u64 (fB:Int),.int .u64 (tA:Int),.int .u64 (tB:Int),.bool false] 127)) w.heap.size (.int .u64 (fA:Int)) (.int .u64 (fB:Int)) (.int .u64 (tA:Int)) (.int .u64 (tB:Int)) (.bool false):=by
  refine ⟨?_,?_,?_,?_,?_⟩ <;> go_simp
 have hnb:w.heap.size≠R:=by have:=h.uR;omega
 have HX:=hid (And.intro h5 (And.intro h6 (And.intro h7 (And.intro h8 (And.intro h9 h10)))))
 have HF:=hid (And.intro h1 (And.intro h2 (And.intro h3 h4)))
 have HL:=hid (And.intro hle (And.intro hAlt hAB))
 have HN:=hid hN
 have lD:=h.lD
 have uD0:=hid h.uD
 clear h hN hb hle hAlt hAB h1 h2 h3 h4 h5 h6 h7 h8 h9 h10
 go_enter Tryz.func113,Tryz.ntmps113
 go_wp2_with fail
 obtain ⟨W1,hW1⟩:∃ W1,w.alloc (.cells #[.int .u64 (fA:Int),.int .u64 (fB:Int),.int .u64 (tA:Int),.int .u64 (tB:Int),.bool false] 127)=W1:=⟨_,rfl⟩
 rw [hW1] at HB h' bx ⊢
 have c0:=h'.c0
 have c1:=h'.c1
 have c2:=h'.c2
 have c3:=h'.c3
 obtain ⟨b0,b1,b2',b3,b4⟩:=bx
 have HH:=hid h'
 clear h' hW1
 refine Aw 16 (by kernel_rfl) (by kernel_rfl) ?_
 simp only [List.take_succ_cons,List.take_zero,List.drop_succ_cons,List.drop_zero]
 repeat still_step
 refine wpStill_nil ?_
 go_wp2_with fail
 refine (yG lc fA fB HH.out.drew.ra HH.out.drew.rb HH.out.drew.rc HH.out.sac HH.out.sbc HF.out.1 HF.out.2.1 (by omega) HN.out.hla (Nat.le_refl _) HL.out.1 (.inl rfl) ?_ ?_).mono ?_
 ·rw [HN.out.va,HN.out.vb,Nat.mul_comm A,Nat.mul_comm B];exact HX.out.1
 ·rw [HN.out.va,HN.out.vb,Nat.mul_comm A,Nat.mul_comm B,← HX.out.2.1];exact Nat.lt_of_le_of_lt (Nat.le_trans HX.out.2.2.2.2.2 HL.out.2.2) HL.out.2.1
 rintro e w' ⟨k1,q1,ds1,rfl,rfl,g1,g2,g3,g4⟩
 rw [HN.out.va,HN.out.vb,Nat.mul_comm A,Nat.mul_comm B,← HX.out.2.1] at g4
 have P2:=HH.out.drew.putC (q:=q1) (ds:=ds1) (by rw [g1];exact HN.out.hla) g2
 have hB2:=((HB.out.mono (Nat.le_of_lt (Nat.lt_of_le_of_lt lD uD0.out))).drew).trans (dV (B:=B0) W1.drew q1 _ oc ds1 P2.lR)
 have k0:=(dB W1.drew q1 R oc ds1 ⟨w.heap.size,0,none⟩ (.inl hnb)).trans b0
 have k1':=(dB W1.drew q1 R oc ds1 ⟨w.heap.size,1,none⟩ (.inl hnb)).trans b1
 have k2:=(dB W1.drew q1 R oc ds1 ⟨w.heap.size,2,none⟩ (.inl hnb)).trans b2'
 have k3:=(dB W1.drew q1 R oc ds1 ⟨w.heap.size,3,none⟩ (.inl hnb)).trans b3
 obtain ⟨W2,hW2⟩:∃ W2,aj W1.drew q1 R oc ds1=W2:=⟨_,rfl⟩
 rw [hW2] at P2 hB2 k0 k1' k2 k3 ⊢
 clear hW2 c0 c1 c2 c3 b0 b1 b2' b3 b4
 have HB2:=hid hB2
 have HG1:=hid (And.intro g1 (And.intro g2 (And.intro g3 g4)))
 have c0:=P2.c0
 have c1:=P2.c1
 have c2:=P2.c2
 have c3:=P2.c3
 have HP2:=hid P2
 clear P2 hB2 g1 g2 g3 g4
 go_wp2_with fail
 refine Aw 16 (by kernel_rfl) (by kernel_rfl) ?_
 simp only [List.take_succ_cons,List.take_zero,List.drop_succ_cons,List.drop_zero]
 repeat still_step
 refine wpStill_nil ?_
 go_wp2_with fail
 refine (yG le tB tA HP2.out.drew.rb HP2.out.drew.ra HP2.out.drew.re HP2.out.sbe HP2.out.sae HF.out.2.2.2 HF.out.2.2.1 (by omega) HN.out.hla HL.out.1 (Nat.le_refl _) (.inr rfl) ?_ ?_).mono ?_
 ·rw [HN.out.va,HN.out.vb,Nat.mul_comm A,Nat.mul_comm B];exact HX.out.2.2.1
 ·rw [HN.out.va,HN.out.vb,Nat.mul_comm A,Nat.mul_comm B,← HX.out.2.2.2.1];exact Nat.lt_trans HX.out.2.2.2.2.1 (Nat.lt_of_le_of_lt (Nat.le_trans HX.out.2.2.2.2.2 HL.out.2.2) HL.out.2.1)
 rintro e w' ⟨kk,q2,ds2,rfl,rfl,g1,g2,g3,g4⟩
 rw [HN.out.va,HN.out.vb,Nat.mul_comm A,Nat.mul_comm B,← HX.out.2.2.2.1] at g4
 have P3:=HP2.out.drew.putE (q:=q2) (ds:=ds2) (by rw [g1];exact HN.out.hla) g2
 have hB3:=HB2.out.drew.trans (dV (B:=B0) W2.drew q2 _ oe ds2 P3.lR)
 obtain ⟨W3,hW3⟩:∃ W3,aj W2.drew q2 R oe ds2=W3:=⟨_,rfl⟩
 rw [hW3] at P3 hB3 ⊢
 clear hW3 c0 c1 c2 c3 k0 k1' k2 k3
 have HB3:=hid hB3
 have HG2:=hid (And.intro g1 (And.intro g2 (And.intro g3 g4)))
 have c0:=P3.c0
 have c1:=P3.c1
 have c2:=P3.c2
 have c3:=P3.c3
 have f0:=P3.f0
 have f1:=P3.f1
 have f2:=P3.f2
 have f3:=P3.f3
 have HP3:=hid P3
 clear P3 hB3 g1 g2 g3 g4
 go_wp2_with fail
 go_region
 all_goals (go_wp2_with fail)
 go_end0
 refine ⟨oc,oe,oa,ob,k1,kk,la,lb,_,_,za,zb,rfl,HP3.out.turn4.drew,⟨Nat.le_trans HG1.out.2.2.1.1 (by rw [HG1.out.1];exact HN.out.hla),Nat.le_trans HG2.out.2.2.1.1 (by rw [HG2.out.1];exact HN.out.hla),?_,?_,?_,?_,Nat.le_of_lt HX.out.2.2.2.2.1⟩,((((HB3.out.setCell lD _).setCell lD _).setCell lD _).setCell lD _).drew⟩
 ·rw [List.take_append_of_le_length HG1.out.2.2.1.1];exact HG1.out.2.2.1.trimmed
 ·rw [List.take_append_of_le_length HG2.out.2.2.1.1];exact HG2.out.2.2.1.trimmed
 ·rw [List.take_append_of_le_length HG1.out.2.2.1.1,HG1.out.2.2.1.val];exact HG1.out.2.2.2
 ·rw [List.take_append_of_le_length HG2.out.2.2.1.1,HG2.out.2.2.1.val];exact HG2.out.2.2.2
theorem JR (B0 D R n oa ob oc oe la lb lc le A B fA fB tA tB:Nat) (od:Bool) (za zb zc ze:List Nat) (w:World) (h:bK B0 w D R n oa ob oc oe la lb lc le za zb zc ze) (hN:Nums n la lb za zb A B) (hn:n≤137438953472)
  (hs:Bv A B fA fB tA tB od) (hf:fB≠0) :
  ∃ a2 b2:Nat,b2<B∧Nat.gcd a2 b2=Nat.gcd A B∧Calls Tryz.prog 113 #[.pointer (some ⟨D,0,none⟩),.agg #[.int .u64 fA,.int .u64 fB,.int .u64 tA,.int .u64 tB,.bool od]] w (xq B0 w D R n a2 b2):=by
 obtain ⟨h1,h2,h3,h4,h5⟩:=hs
 obtain ⟨a2,b2,k1,k2,k3,k4⟩:=h5 hf
 refine ⟨a2,b2,by omega,k3,?_⟩
 cases od
 ·rw [if_neg (by simp)] at k4
  obtain ⟨m1,m2,m3,m4⟩:=k4
  exact Ul B0 D R n oa ob oc oe la lb lc le A B fA fB tA tB a2 b2 za zb zc ze w h hN hn h1 h2 h3 h4 m1 m2 m3 m4 k1 k2
 ·rw [if_pos rfl] at k4
  obtain ⟨m1,m2,m3,m4⟩:=k4
  exact Um B0 D R n oa ob oc oe la lb lc le A B fA fB tA tB a2 b2 za zb zc ze w h hN hn h1 h2 h3 h4 m1 m2 m3 m4 k1 k2
end
section
theorem PO (u v m:Nat) (h:u+v≤2*m):u*v≤m*m:=by
 have h1:(u+v)*(u+v)≤(2*m)*(2*m):=Nat.mul_le_mul h h
 have h2:4*(u*v)≤(u+v)*(u+v):=by
  rcases Nat.le_total u v with hh | hh
  ·obtain ⟨d,rfl⟩:=Nat.exists_eq_add_of_le hh
   have:(u+(u+d))*(u+(u+d))=4*(u*(u+d))+d*d:=by grind
   omega
  ·obtain ⟨d,rfl⟩:=Nat.exists_eq_add_of_le hh
   have:(v+d+v)*(v+d+v)=4*((v+d)*v)+d*d:=by grind
   omega
 have h3:(2*m)*(2*m)=4*(m*m):=by grind
 omega
theorem WY (a x:Nat) (hx:1≤x):a<((a / x+x) / 2+1)*((a / x+x) / 2+1):=by
 have h1:a<(a / x+1)*x:=by
  rw [Nat.add_mul,Nat.one_mul]
  exact Nat.lt_div_mul_add hx
 have h2:=PO (a / x+1) x ((a / x+x) / 2+1) (by omega)
 omega
theorem Xa (a x:Nat) (hx:1≤x) (h:x≤(a / x+x) / 2):x*x≤a:=by
 have h1:x≤a / x:=by omega
 rw [Nat.le_div_iff_mul_le hx] at h1
 exact h1
theorem WZ (a x:Nat) (ha:1≤a) (hx:1≤x) (_h:(a / x+x) / 2<x):1≤(a / x+x) / 2:=by
 rcases Nat.lt_or_ge a x with h | h
 ·have:a / x=0:=Nat.div_eq_of_lt h
  omega
 ·have:1≤a / x:=by rw [Nat.le_div_iff_mul_le hx];omega
  omega
theorem Yu (a r s:Nat) (h1:r*r≤a) (h2:a<(r+1)*(r+1)) (h3:s*s≤a) (h4:a<(s+1)*(s+1)):r=s:=by
 rcases Nat.lt_trichotomy r s with h | h | h
 ·have:=Nat.mul_le_mul (show r+1≤s from h) (show r+1≤s from h)
  omega
 ·exact h
 ·have:=Nat.mul_le_mul (show s+1≤r from h) (show s+1≤r from h)
  omega
theorem yT (a m k:Nat) (ha:a % 2=1):Nat.gcd a (2 ^ k*m)=Nat.gcd a m:=by
 induction k with
 | zero=>simp
 | succ k ih =>
  rw [Nat.pow_succ,Nat.mul_comm (2 ^ k) 2,Nat.mul_assoc,Nat.Coprime.gcd_mul_left_cancel_right]
  ·exact ih
  ·rw [Nat.Coprime,Nat.gcd_rec,ha,Nat.gcd_one_left]
theorem Ut (i j m n:Nat) (hm:m % 2=1) (hn:n % 2=1):Nat.gcd (2 ^ i*m) (2 ^ j*n)=2 ^ (min i j)*Nat.gcd m n:=by
 rcases Nat.le_total i j with h | h
 ·obtain ⟨d,rfl⟩:=Nat.exists_eq_add_of_le h
  rw [Nat.min_eq_left h,Nat.pow_add,Nat.mul_assoc,Nat.gcd_mul_left,yT m n d hm]
 ·obtain ⟨d,rfl⟩:=Nat.exists_eq_add_of_le h
  rw [Nat.min_eq_right h,Nat.pow_add,Nat.mul_assoc,Nat.gcd_mul_left,Nat.gcd_comm,yT n m d hn,Nat.gcd_comm]
theorem JX (a b:Nat) (h:a≤b):Nat.gcd a (b - a)=Nat.gcd a b:=by
 rw [Nat.gcd_sub_self_right h]
end
section
theorem yD (x:Nat) (h0:x≠0) (h:x<B64):∃ m,x=2 ^ Lib.ctz 64 x*(2*m+1)∧Lib.ctz 64 x<64:=by
 have e:Lib.ctz 64 x=Lib.ctzFrom 64 x:=by simp [Lib.ctz,h0]
 rw [e]
 exact Lib.ctzFrom_spec 64 x (by omega) (by unfold B64 at h;omega)
theorem FW {k j m:Nat}:2 ^ k∣2 ^ j*(2*m+1)↔k≤j:=by
 constructor
 ·intro h
  rcases Nat.lt_or_ge j k with h1 | h1
  ·exfalso
   obtain ⟨d,rfl⟩:=Nat.exists_eq_add_of_lt h1
   obtain ⟨c,hc⟩:=h
   rw [show j+d+1=j+(d+1) from rfl,Nat.pow_add,Nat.mul_assoc] at hc
   have:=Nat.eq_of_mul_eq_mul_left (Nat.two_pow_pos j) hc
   rw [Nat.pow_succ,Nat.mul_comm (2 ^ d) 2,Nat.mul_assoc] at this
   omega
  ·exact h1
 ·intro h
  obtain ⟨d,rfl⟩:=Nat.exists_eq_add_of_le h
  rw [Nat.pow_add,Nat.mul_assoc]
  exact Nat.dvd_mul_right _ _
theorem Ti (k a b:Nat):2 ^ k∣(a ||| b)↔2 ^ k∣a∧2 ^ k∣b:=by
 rw [Nat.dvd_iff_mod_eq_zero,Nat.dvd_iff_mod_eq_zero,Nat.dvd_iff_mod_eq_zero,Nat.or_mod_two_pow,Nat.or_eq_zero_iff]
theorem Rz (a b:Nat) (ha:a≠0) (hb:b≠0) (ha1:a<B64) (hb1:b<B64):Lib.ctz 64 (a ||| b)=min (Lib.ctz 64 a) (Lib.ctz 64 b):=by
 have hor:(a ||| b)<B64:=Nat.or_lt_two_pow (n:=64) (by unfold B64 at ha1;omega) (by unfold B64 at hb1;omega)
 have h0:(a ||| b)≠0:=by rw [Ne,Nat.or_eq_zero_iff];omega
 obtain ⟨m,hm,hm1⟩:=yD _ h0 hor
 obtain ⟨i,hi,hi1⟩:=yD a ha ha1
 obtain ⟨j,hj,hj1⟩:=yD b hb hb1
 have key:∀ k,k≤Lib.ctz 64 (a ||| b)↔k≤Lib.ctz 64 a∧k≤Lib.ctz 64 b:=fun k=>by
  have:=Ti k a b
  generalize hx:Lib.ctz 64 (a ||| b)=x at *
  generalize hy:Lib.ctz 64 a=y at *
  generalize hz:Lib.ctz 64 b=z at *
  rw [← FW (m:=m),← FW (m:=i),← FW (m:=j),← hm,← hi,← hj,this]
 have k1:=(key (Lib.ctz 64 (a ||| b))).1 (Nat.le_refl _)
 have k2:=(key (min (Lib.ctz 64 a) (Lib.ctz 64 b))).2 (by omega)
 omega
def dK (x:Nat):Nat:=x / 2 ^ Lib.ctz 64 x
theorem qU (x:Nat) (h0:x≠0) (h:x<B64):x=2 ^ Lib.ctz 64 x*dK x∧dK x % 2=1∧1≤dK x∧dK x≤x:=by
 obtain ⟨m,hm,_⟩:=yD x h0 h
 have e:dK x=2*m+1:=by
  unfold dK
  generalize Lib.ctz 64 x=k at *
  rw [hm,Nat.mul_div_cancel_left _ (Nat.two_pow_pos _)]
 have:dK x≤x:=Nat.div_le_self _ _
 refine ⟨?_,by omega,by omega,this⟩
 rw [e]
 exact hm
structure WG (g a b:Nat):Prop where
 odd:a % 2=1
 gcd:Nat.gcd a b=g
theorem WG.start (a b:Nat) (ha:a≠0) (hb:b≠0) (ha1:a<B64) (hb1:b<B64):WG (Nat.gcd (dK a) (dK b)) (dK a) b:=by
 obtain ⟨h1,h2,_,_⟩:=qU a ha ha1
 obtain ⟨k1,k2,_,_⟩:=qU b hb hb1
 refine ⟨h2,?_⟩
 generalize Lib.ctz 64 b=k at *
 conv=>lhs;rw [k1]
 exact yT _ _ _ h2
theorem WG.step {g a b:Nat} (h:WG g a b) (hb:b≠0) (hb1:b<B64) :
  (a≤dK b→WG g a (dK b - a))∧(dK b<a→WG g (dK b) (a - dK b)):=by
 obtain ⟨k1,k2,_,_⟩:=qU b hb hb1
 have e:Nat.gcd a (dK b)=g:=by
  rw [← h.gcd]
  generalize Lib.ctz 64 b=k at *
  conv=>rhs;rw [k1]
  exact (yT _ _ _ h.odd).symm
 constructor
 ·intro hle
  exact ⟨h.odd,by rw [JX _ _ hle,e]⟩
 ·intro hlt
  exact ⟨k2,by rw [JX _ _ (by omega),Nat.gcd_comm,e]⟩
theorem Uu (a b:Nat) (ha:a≠0) (hb:b≠0) (ha1:a<B64) (hb1:b<B64) :
  Nat.gcd a b=Nat.gcd (dK a) (dK b)*2 ^ Lib.ctz 64 (a ||| b):=by
 obtain ⟨h1,h2,_,_⟩:=qU a ha ha1
 obtain ⟨k1,k2,_,_⟩:=qU b hb hb1
 rw [Rz a b ha hb ha1 hb1]
 generalize Lib.ctz 64 b=k at *
 generalize Lib.ctz 64 a=j at *
 conv=>lhs;rw [h1,k1]
 rw [Ut _ _ _ _ h2 k2,Nat.mul_comm]
theorem LG (a b:Nat) (ha:a<B64) (hb:b<B64):(a ||| b)<B64:=
 Nat.or_lt_two_pow (n:=64) (by unfold B64 at ha;omega) (by unfold B64 at hb;omega)
end
section
open Go.RowKit
def Tab (w:World):Prop:=0<w.heap.size∧TabAt 0 Lib.deBruijn64tab w
theorem Tab.below {B:Nat} {w w':World} (h:Tab w) (hb:Below B w w') (hB:w.heap.size≤B):Tab w':=
 ⟨by have:=hb.size;have:=h.1;omega,fun j hj=>(hb.cell (p:=⟨0,j,none⟩) (by have:=h.1;simp only;omega)).trans (h.2 j hj)⟩
theorem Z8 (x k idx:Nat) (w:World) (hx0:((x:Int) == 0)=false)
  (key:IntKind.u64.wrap (bits BinOp.and IntKind.u64 (x:Int) (IntKind.u64.wrap (-(x:Int)))*285870213051353865) / 288230376151711744=(idx:Int))
  (hi:idx<64) (hk:k<64) (hcell:w.cell? ⟨0,idx,none⟩=some (.int .u8 k)) :
  Calls Tryz.prog 109 #[.int .u64 x] w fun e w'=>e=.returned (.int .i64 k)∧w=w':=by
 go_enter Tryz.func109,Tryz.ntmps109
 go_wp2_with (simp only [key])
 go_ret
 exact ⟨rfl,rfl⟩
theorem GK (x:Nat) (hx:x<B64) (h0:x≠0) (w:World) (hT:Tab w) :
  Calls Tryz.prog 109 #[.int .u64 (x:Int)] w fun e w'=>e=.returned (.int .i64 ((Lib.ctz 64 x:Nat):Int))∧w=w':=by
 unfold B64 at hx
 obtain ⟨hlow,hk⟩:=Lib.lowest_bit 64 x h0 hx
 obtain ⟨hi,htab⟩:=Lib.deBruijn64_at _ hk
 have hcell:=hT.2 _ hi
 rw [htab] at hcell
 exact Z8 x _ _ w (by rw [beq_eq_false_iff_ne];omega) (tz64_key x _ hx h0 hlow) hi hk hcell
end
section
open Go.RowKit
theorem WG.pos {g a b:Nat} (h:WG g a b):1≤a:=by have:=h.odd;omega
def WGR (G:Nat) (av bv:Value):Prop:=∃ x y:Nat,av=.int .u64 x∧bv=.int .u64 y∧1≤x∧x<B64∧y<B64∧WG G x y
theorem Zk (g t:Nat) (h:g*2 ^ t<B64):IntKind.u64.wrap ((g:Int)*2 ^ t)=((g*2 ^ t:Nat):Int):=by
 rw [show (g:Int)*2 ^ t=((g*2 ^ t:Nat):Int) by push_cast;rfl,lN,Nat.mod_eq_of_lt h]
theorem NP (x:Nat):(x:Int) / 2 ^ Lib.ctz 64 x=((dK x:Nat):Int):=by
 unfold dK
 push_cast
 rfl
theorem GN (a b:Nat) (w:World) (ha:a<B64) (hb:b<B64) (ha0:a≠0) (hb0:b≠0) (hT:Tab w) :
  Calls Tryz.prog 79 #[.int .u64 (a:Int),.int .u64 (b:Int)] w fun e w'=>e=.returned (.int .u64 ((Nat.gcd a b:Nat):Int))∧w=w':=by
 have hg:=Uu a b ha0 hb0 ha hb
 have hst:=WG.start a b ha0 hb0 ha hb
 have hor:(a ||| b)≠0:=by rw [Ne,Nat.or_eq_zero_iff];omega
 have hc1:Lib.ctz 64 (a ||| b)≤63:=by have:=(Lib.lowest_bit 64 (a ||| b) hor (by have:=LG a b ha hb;unfold B64 at this;omega)).2;omega
 have hc2:Lib.ctz 64 a≤63:=by have:=(Lib.lowest_bit 64 a ha0 (by unfold B64 at ha;omega)).2;omega
 have T1:=hid (GK (a ||| b) (LG a b ha hb) hor w hT)
 have T2:=hid (GK a ha ha0 w hT)
 have hbor:=Ci a b ha hb
 have hsr:=NP a
 have hgl:Nat.gcd a b<B64:=Nat.lt_of_le_of_lt (Nat.gcd_le_left b (by omega)) ha
 have hol:=(qU a ha0 ha).2.2
 rw [hg] at hgl
 have HF:=hid (Zk _ _ hgl)
 rw [hg]
 obtain ⟨G,hG⟩:∃ G,Nat.gcd (dK a) (dK b)=G:=⟨_,rfl⟩
 rw [hG] at hst HF ⊢
 obtain ⟨t,ht⟩:∃ t,Lib.ctz 64 (a ||| b)=t:=⟨_,rfl⟩
 rw [ht] at HF T1 hc1 ⊢
 obtain ⟨oa,ho⟩:∃ oa,dK a=oa:=⟨_,rfl⟩
 rw [ho] at hst hsr hol
 obtain ⟨sa,hsa⟩:∃ sa,Lib.ctz 64 a=sa:=⟨_,rfl⟩
 rw [hsa] at T2 hc2 hsr
 obtain ⟨ab,hab⟩:∃ ab,(a ||| b)=ab:=⟨_,rfl⟩
 rw [hab] at T1 hbor
 have HST:=hid hst
 have hol2:oa<B64:=by omega
 have HL:=hid (And.intro hol2 hb)
 have HT:=hid hT
 clear hg hst hor hG ht ho hsa hab hT ha hb ha0 hb0 hgl hol hol2
 go_enter Tryz.func79,Tryz.ntmps79
 go_wp2_with fail
 refine (T1.out).mono ?_
 rintro e w' ⟨rfl,rfl⟩
 go_wp2_with fail
 refine (T2.out).mono ?_
 rintro e w' ⟨rfl,rfl⟩
 go_wp2_with fail
 go_loop [0,1] (fun av bv=>WGR G av bv) (fun av bv=>(intOf av).toNat+(intOf bv).toNat)
 case atStart=>exact ⟨oa,b,rfl,rfl,HST.out.pos,HL.out.1,HL.out.2,HST.out⟩
 case round =>
  obtain ⟨x,y,rfl,rfl,hx1,hx,hy,hI⟩:=hrel
  by_cases hy0:y=0
  ·subst hy0
   have hxG:x=G:=by have:=hI.gcd;rw [Nat.gcd_zero_right] at this;exact this
   have HI:=hid hI
   clear hI hx hy
   subst hxG
   have hf:=HF.out
   have t0:(((0:Nat):Int) != 0)=false:=rfl
   go_wp2_with fail
   go_ret
   exact ⟨rfl,rfl⟩
  ·obtain ⟨s1,s2⟩:=hI.step hy0 hy
   obtain ⟨-,o2,o3,o4⟩:=qU y hy0 hy
   have T3:=hid (GK y hy hy0 w HT.out)
   have hs3:=NP y
   have hc3:Lib.ctz 64 y≤63:=by have:=(Lib.lowest_bit 64 y hy0 (by unfold B64 at hy;omega)).2;omega
   obtain ⟨c,hc⟩:∃ c,Lib.ctz 64 y=c:=⟨_,rfl⟩
   rw [hc] at T3 hs3 hc3
   obtain ⟨z,hz⟩:∃ z,dK y=z:=⟨_,rfl⟩
   rw [hz] at hs3 s1 s2 o2 o3 o4
   have t0:((y:Int) != 0)=true:=by rw [bne_iff_ne];omega
   have HS:=hid (And.intro s1 s2)
   have HL2:=hid (And.intro hx hy)
   have HW:=hid (And.intro (fun h:z<x=>Gz x z (by omega) HL2.out.1) (fun h:¬ z<x=>Gz z x (by omega) (by have:=HL2.out.2;omega)))
   clear s1 s2 hI hc hz o2 hx hy
   by_cases hlt:z<x
   ·have hw:=HW.out.1 hlt
    go_wp2_with fail
    refine (T3.out).mono ?_
    rintro e w' ⟨rfl,rfl⟩
    go_wp2_with fail
    go_round
    case rel=>exact ⟨z,x - z,rfl,by go_num,by omega,by have:=HL2.out.1;omega,by have:=HL2.out.1;omega,HS.out.2 hlt⟩
    case measure=>simp [intOf];omega
   ·have hw:=HW.out.2 hlt
    go_wp2_with (go_at_call 109;refine (T3.out).mono ?_;rintro e w' ⟨rfl,rfl⟩)
    go_round
    case rel=>exact ⟨x,z - x,rfl,by go_num,by omega,by have:=HL2.out.1;omega,by have:=HL2.out.2;omega,HS.out.1 (by omega)⟩
    case measure=>simp [intOf];omega
end
end Go.Proofs.YtancpaiaoamjlaaGreatDoor
