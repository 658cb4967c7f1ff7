/- What the proof rests on, part 1. -/
import Derived.Test.YtmijlcldmefggaaGreatDoorZ00
import Derived.Deep.OwnRows
import Derived.Laws.IdiomCopy
import Derived.Lib.RowBridge
namespace Go.Proofs.YtmijlcldmefggaaGreatDoor
set_option maxRecDepth 100000
set_option maxHeartbeats 80000000
section
open Go.RowKit Go.Sort
def RetRow (w:World) (b o n:Nat) (Q:List Nat→Nat→Prop) (e:Ending) (w':World):Prop:=
 ∃ (ds:List Nat) (c q:Nat),e=.returned (.int .u64 (c:Int))∧w' = putL w q b o ds∧ds.length=n∧Dig ds∧Q ds c
def RetRow0 (w:World) (b o n:Nat) (Q:List Nat→Prop) (e:Ending) (w':World):Prop:=
 ∃ (ds:List Nat) (q:Nat),e=.returned (.tuple #[])∧w' = putL w q b o ds∧ds.length=n∧Dig ds∧Q ds
theorem increase_calls (b o cp b2 o2 cp2:Nat) (xs bs:List Nat) (w:World) (hH:HoldsL w b o xs) (hY:Digs w b2 o2 bs) (hne:b2≠b∨o2+bs.length≤o∨o+xs.length≤o2)
  (hl:bs.length≤xs.length) (ha:Dig xs) (hb:Dig bs) (hsz:xs.length≤1099511627776) :
  Calls Tryz.prog 210 #[.slice (some ⟨b,o,none⟩) xs.length cp,.slice (some ⟨b2,o2,none⟩) bs.length cp2] w
   (RetRow w b o xs.length fun ds c=>val ds+c*B64 ^ xs.length=val xs+val bs):=by
 have h1:=add64_run
 have h2:=add64_runz
 go_enter Tryz.func210,Tryz.ntmps210
 go_wp2
 go_loopw [5,10] (fun cv iv wr=>∃ (k c n:Nat) (dk:List Nat),iv=.int .i64 k∧cv=.int .u64 c∧k≤bs.length∧wr=putL w n b o dk∧Inc xs bs dk k c) (fun _ iv _=>bs.length - (intOf iv).toNat)
 case atStart=>exact ⟨0,0,0,xs,rfl,rfl,by omega,(putL_self w b o xs hH).symm,Inc.start bs ha⟩
 case round =>
  obtain ⟨k,c,n,dk,rfl,rfl,hk,hwr,hI⟩:=hrel
  have hdl:dk.length=xs.length:=hI.1.len
  by_cases hlt:k<bs.length
  ·obtain ⟨x,hx⟩:∃ x,dk[k]?.getD 0=x:=⟨_,rfl⟩
   obtain ⟨y,hy⟩:∃ y,bs[k]?.getD 0=y:=⟨_,rfl⟩
   have hx1:x<B64:=hx ▸ hI.1.dig.getD k
   have hy1:y<B64:=hy ▸ hb.getD k
   have hc1:c≤1:=hI.2.1
   have cx:wr.cell? ⟨b,o+k,none⟩=some (.int .u64 (x:Int)):=by
    have:=(holdsL_putL w n b o xs dk hH hdl k (by omega)).1
    rw [hwr,this,hx]
   have cy:wr.cell? ⟨b2,o2+k,none⟩=some (.int .u64 (y:Int)):=by
    have:=(hY.putL (q:=n) (b:=b) (o:=o) (xs:=dk) (by omega)) k hlt
    rw [hwr,this,hy]
   have fx:wr.frozen? ⟨b,o+k,none⟩=false:=by
    have:=(hH k (by omega)).2
    rw [hwr,frozen_putL,this]
   have HI:=hid (hI.step (s:=addS x y c) (c':=addC x y c) (by omega) (addS_lt _ _ _) (addC_le _ _ _ hx1 hy1 hc1) (by rw [hx,hy];exact add_spec x y c))
   have HW:=hid hwr
   have HL:Hid (dk.length=xs.length):=hdl
   clear hwr hI hdl hx hy hH hY
   go_wp2
   go_region
   all_goals go_wp2
   go_roundw
   case rel =>
    refine ⟨k+1,addC x y c,n+1,dk.set k (addS x y c),by go_num,rfl,by omega,?_,HI.out⟩
    rw [HW.out,putL_set _ _ _ _ _ _ _ (by rw [HL.out];omega),putL_drew]
   case measure=>simp [intOf];omega
  ·have hkl:k=bs.length:=by omega
   have HK:=hid hkl
   clear hkl
   go_wp2
   go_loopw [5,7] (fun cv iv wr=>∃ (k c n:Nat) (dk:List Nat),iv=.int .i64 k∧cv=.int .u64 c∧bs.length≤k∧k≤xs.length∧wr=putL w n b o dk∧Inc xs bs dk k c) (fun _ iv _=>xs.length - (intOf iv).toNat)
   case atStart=>exact ⟨bs.length,c,n,dk,rfl,rfl,by omega,hl,rfl,by rw [← HK.out];exact hI⟩
   case round =>
    clear HK hlt hk hI hdl
    obtain ⟨k,c,n,dk,rfl,rfl,hk1,hk2,hwr,hI⟩:=hrel
    have hdl:dk.length=xs.length:=hI.1.len
    have hc1:c≤1:=hI.2.1
    by_cases hgo:k<xs.length∧c≠0
    ·obtain ⟨hlt,hc0⟩:=hgo
     have ht:((c:Int) != 0)=true:=by rw [bne_iff_ne];omega
     obtain ⟨x,hx⟩:∃ x,dk[k]?.getD 0=x:=⟨_,rfl⟩
     have hx1:x<B64:=hx ▸ hI.1.dig.getD k
     have cx:wr.cell? ⟨b,o+k,none⟩=some (.int .u64 (x:Int)):=by
      have:=(holdsL_putL w n b o xs dk hH hdl k (by omega)).1
      rw [hwr,this,hx]
     have fx:wr.frozen? ⟨b,o+k,none⟩=false:=by
      have:=(hH k (by omega)).2
      rw [hwr,frozen_putL,this]
     have HI:=hid (hI.step (s:=addS x 0 c) (c':=addC x 0 c) (by omega) (addS_lt _ _ _) (addC_le _ _ _ hx1 B64_pos hc1) (by rw [hx,List.getElem?_eq_none hk1];exact add_spec x 0 c))
     have HW:=hid hwr
     have HL:Hid (dk.length=xs.length):=hdl
     clear hwr hI hdl hx hH hY
     go_wp2
     go_roundw
     case rel =>
      refine ⟨k+1,addC x 0 c,n,dk.set k (addS x 0 c),by go_num,rfl,by omega,by omega,?_,HI.out⟩
      rw [HW.out,putL_set _ _ _ _ _ _ _ (by rw [HL.out];omega)]
     case measure=>simp [intOf];omega
    ·have hD:=hid (hI.done hk2 hk1 (by omega))
     have HI:=hid hI
     have HL:Hid (dk.length=xs.length):=hdl
     clear hI hdl
     by_cases hlt:k<xs.length
     ·have ht:((c:Int) != 0)=false:=by rw [bne_eq_false_iff_eq];omega
      go_wp2
      go_ret
      exact ⟨dk,c,n,rfl,rfl,HL.out,HI.out.1.dig,hD.out⟩
     ·go_wp2
      go_ret
      exact ⟨dk,c,n,rfl,rfl,HL.out,HI.out.1.dig,hD.out⟩
theorem decrease_calls (b o cp b2 o2 cp2:Nat) (xs bs:List Nat) (w:World) (hH:HoldsL w b o xs) (hY:Digs w b2 o2 bs) (hne:b2≠b∨o2+bs.length≤o∨o+xs.length≤o2)
  (hl:bs.length≤xs.length) (ha:Dig xs) (hb:Dig bs) (hv:val bs≤val xs) (hsz:xs.length≤1099511627776) :
  Calls Tryz.prog 211 #[.slice (some ⟨b,o,none⟩) xs.length cp,.slice (some ⟨b2,o2,none⟩) bs.length cp2] w
   (RetRow0 w b o xs.length fun ds=>val ds+val bs=val xs):=by
 have h1:=sub64_run
 have h2:=sub64_runz
 go_enter Tryz.func211,Tryz.ntmps211
 go_wp2
 go_loopw [4,9] (fun cv iv wr=>∃ (k c n:Nat) (dk:List Nat),iv=.int .i64 k∧cv=.int .u64 c∧k≤bs.length∧wr=putL w n b o dk∧Dec xs bs dk k c) (fun _ iv _=>bs.length - (intOf iv).toNat)
 case atStart=>exact ⟨0,0,0,xs,rfl,rfl,by omega,(putL_self w b o xs hH).symm,Dec.start bs ha⟩
 case round =>
  obtain ⟨k,c,n,dk,rfl,rfl,hk,hwr,hI⟩:=hrel
  have hdl:dk.length=xs.length:=hI.1.len
  by_cases hlt:k<bs.length
  ·obtain ⟨x,hx⟩:∃ x,dk[k]?.getD 0=x:=⟨_,rfl⟩
   obtain ⟨y,hy⟩:∃ y,bs[k]?.getD 0=y:=⟨_,rfl⟩
   have hx1:x<B64:=hx ▸ hI.1.dig.getD k
   have hy1:y<B64:=hy ▸ hb.getD k
   have hc1:c≤1:=hI.2.1
   have cx:wr.cell? ⟨b,o+k,none⟩=some (.int .u64 (x:Int)):=by
    have:=(holdsL_putL w n b o xs dk hH hdl k (by omega)).1
    rw [hwr,this,hx]
   have cy:wr.cell? ⟨b2,o2+k,none⟩=some (.int .u64 (y:Int)):=by
    have:=(hY.putL (q:=n) (b:=b) (o:=o) (xs:=dk) (by omega)) k hlt
    rw [hwr,this,hy]
   have fx:wr.frozen? ⟨b,o+k,none⟩=false:=by
    have:=(hH k (by omega)).2
    rw [hwr,frozen_putL,this]
   have HI:=hid (hI.step (s:=subS x y c) (c':=subC x y c) (by omega) (subS_lt _ _ _) (subC_le _ _ _) (by rw [hx,hy];exact sub_spec x y c hx1 hy1 hc1))
   have HW:=hid hwr
   have HL:Hid (dk.length=xs.length):=hdl
   clear hwr hI hdl hx hy hH hY
   go_wp2
   go_region
   all_goals go_wp2
   go_roundw
   case rel =>
    refine ⟨k+1,subC x y c,n+1,dk.set k (subS x y c),by go_num,rfl,by omega,?_,HI.out⟩
    rw [HW.out,putL_set _ _ _ _ _ _ _ (by rw [HL.out];omega),putL_drew]
   case measure=>simp [intOf];omega
  ·have hkl:k=bs.length:=by omega
   have HK:=hid hkl
   clear hkl
   go_wp2
   go_loopw [4,6] (fun cv iv wr=>∃ (k c n:Nat) (dk:List Nat),iv=.int .i64 k∧cv=.int .u64 c∧bs.length≤k∧k≤xs.length∧wr=putL w n b o dk∧Dec xs bs dk k c) (fun _ iv _=>xs.length - (intOf iv).toNat)
   case atStart=>exact ⟨bs.length,c,n,dk,rfl,rfl,by omega,hl,rfl,by rw [← HK.out];exact hI⟩
   case round =>
    clear HK hlt hk hI hdl
    obtain ⟨k,c,n,dk,rfl,rfl,hk1,hk2,hwr,hI⟩:=hrel
    have hdl:dk.length=xs.length:=hI.1.len
    have hc1:c≤1:=hI.2.1
    by_cases hgo:k<xs.length∧c≠0
    ·obtain ⟨hlt,hc0⟩:=hgo
     have ht:((c:Int) != 0)=true:=by rw [bne_iff_ne];omega
     obtain ⟨x,hx⟩:∃ x,dk[k]?.getD 0=x:=⟨_,rfl⟩
     have hx1:x<B64:=hx ▸ hI.1.dig.getD k
     have cx:wr.cell? ⟨b,o+k,none⟩=some (.int .u64 (x:Int)):=by
      have:=(holdsL_putL w n b o xs dk hH hdl k (by omega)).1
      rw [hwr,this,hx]
     have fx:wr.frozen? ⟨b,o+k,none⟩=false:=by
      have:=(hH k (by omega)).2
      rw [hwr,frozen_putL,this]
     have HI:=hid (hI.step (s:=subS x 0 c) (c':=subC x 0 c) (by omega) (subS_lt _ _ _) (subC_le _ _ _) (by rw [hx,List.getElem?_eq_none hk1];exact sub_spec x 0 c hx1 B64_pos hc1))
     have HW:=hid hwr
     have HL:Hid (dk.length=xs.length):=hdl
     clear hwr hI hdl hx hH hY
     go_wp2
     go_roundw
     case rel =>
      refine ⟨k+1,subC x 0 c,n,dk.set k (subS x 0 c),by go_num,rfl,by omega,by omega,?_,HI.out⟩
      rw [HW.out,putL_set _ _ _ _ _ _ _ (by rw [HL.out];omega)]
     case measure=>simp [intOf];omega
    ·have hD:=hid (hI.done hk2 hk1 (by omega))
     have HV:Hid (val dk+val bs=val xs):=by
      have h0:=no_borrow hI.1.dig hdl hD.out hv
      have h3:=hD.out
      rw [h0] at h3
      show _=_
      omega
     have HI:=hid hI
     have HL:Hid (dk.length=xs.length):=hdl
     clear hI hdl
     by_cases hlt:k<xs.length
     ·have ht:((c:Int) != 0)=false:=by rw [bne_eq_false_iff_eq];omega
      go_wp2
      go_end0
      exact ⟨dk,n,rfl,rfl,HL.out,HI.out.1.dig,HV.out⟩
     ·go_wp2
      go_end0
      exact ⟨dk,n,rfl,rfl,HL.out,HI.out.1.dig,HV.out⟩
theorem increase_callsN (nx nb:Nat) (b o cp b2 o2 cp2:Nat) (xs bs:List Nat) (w:World) (hH:HoldsL w b o xs) (hY:Digs w b2 o2 bs) (hne:b2≠b∨o2+bs.length≤o∨o+xs.length≤o2)
  (hl:bs.length≤xs.length) (ha:Dig xs) (hb:Dig bs) (hsz:xs.length≤1099511627776) (hnx:xs.length=nx) (hnb:bs.length=nb) :
  Calls Tryz.prog 210 #[.slice (some ⟨b,o,none⟩) nx cp,.slice (some ⟨b2,o2,none⟩) nb cp2] w
   (RetRow w b o xs.length fun ds c=>val ds+c*B64 ^ xs.length=val xs+val bs):=by
 subst hnx hnb
 exact increase_calls b o cp b2 o2 cp2 xs bs w hH hY hne hl ha hb hsz
theorem decrease_callsN (nx nb:Nat) (b o cp b2 o2 cp2:Nat) (xs bs:List Nat) (w:World) (hH:HoldsL w b o xs) (hY:Digs w b2 o2 bs) (hne:b2≠b∨o2+bs.length≤o∨o+xs.length≤o2)
  (hl:bs.length≤xs.length) (ha:Dig xs) (hb:Dig bs) (hv:val bs≤val xs) (hsz:xs.length≤1099511627776) (hnx:xs.length=nx) (hnb:bs.length=nb) :
  Calls Tryz.prog 211 #[.slice (some ⟨b,o,none⟩) nx cp,.slice (some ⟨b2,o2,none⟩) nb cp2] w
   (RetRow0 w b o xs.length fun ds=>val ds+val bs=val xs):=by
 subst hnx hnb
 exact decrease_calls b o cp b2 o2 cp2 xs bs w hH hY hne hl ha hb hv hsz
end
section
open Go.RowKit Go.Sort
theorem val_take_all {xs:List Nat}:val (xs.take xs.length)=val xs:=by rw [List.take_of_length_le (Nat.le_refl _)]
theorem increaseTimes_calls (b o cp b2 o2 cp2 m:Nat) (xs bs:List Nat) (w:World) (hH:HoldsL w b o xs) (hY:Digs w b2 o2 bs) (hne:b2≠b∨o2+bs.length≤o∨o+xs.length≤o2)
  (hl:bs.length≤xs.length) (ha:Dig xs) (hb:Dig bs) (hm:m<B64) (hsz:xs.length≤1099511627776) :
  Calls Tryz.prog 164 #[.slice (some ⟨b,o,none⟩) xs.length cp,.slice (some ⟨b2,o2,none⟩) bs.length cp2,.int .u64 (m:Int)] w
   (RetRow w b o xs.length fun ds c=>IncT xs bs ds m bs.length c):=by
 have h1:=add64_run0
 have hm64:=hid hm
 clear hm
 go_enter Tryz.func164,Tryz.ntmps164
 go_wp2
 go_loopw [7,14] (fun cv iv wr=>∃ (k c n:Nat) (dk:List Nat),iv=.int .i64 k∧cv=.int .u64 c∧k≤bs.length∧wr=putL w n b o dk∧IncT xs bs dk m k c) (fun _ iv _=>bs.length - (intOf iv).toNat)
 case atStart=>exact ⟨0,0,0,xs,rfl,rfl,by omega,(putL_self w b o xs hH).symm,IncT.start bs m ha⟩
 case round =>
  obtain ⟨k,c,n,dk,rfl,rfl,hk,hwr,hI⟩:=hrel
  have hdl:dk.length=xs.length:=hI.1.len
  by_cases hlt:k<bs.length
  ·obtain ⟨x,hx⟩:∃ x,dk[k]?.getD 0=x:=⟨_,rfl⟩
   obtain ⟨y,hy⟩:∃ y,bs[k]?.getD 0=y:=⟨_,rfl⟩
   have hx1:x<B64:=hx ▸ hI.1.dig.getD k
   have hy1:y<B64:=hy ▸ hb.getD k
   have hc1:c<B64:=hI.2.1
   have cx:wr.cell? ⟨b,o+k,none⟩=some (.int .u64 (x:Int)):=by
    have:=(holdsL_putL w n b o xs dk hH hdl k (by omega)).1
    rw [hwr,this,hx]
   have cy:wr.cell? ⟨b2,o2+k,none⟩=some (.int .u64 (y:Int)):=by
    have:=(hY.putL (q:=n) (b:=b) (o:=o) (xs:=dk) (by omega)) k hlt
    rw [hwr,this,hy]
   have fx:wr.frozen? ⟨b,o+k,none⟩=false:=by
    have:=(hH k (by omega)).2
    rw [hwr,frozen_putL,this]
   obtain ⟨t1,t2⟩:=times_carry hx1 hy1 hm64.out hc1 (mul_spec y m) (add_spec (mulL y m) c 0) (add_spec x (addS (mulL y m) c 0) 0)
   have HI:=hid (hI.step (s:=addS x (addS (mulL y m) c 0) 0) (by omega) (addS_lt _ _ _) t1 (by rw [hx,hy];exact t2))
   have b1:mulH y m+addC (mulL y m) c 0<18446744073709551616:=by unfold B64 at t1;omega
   have b2:mulH y m+addC (mulL y m) c 0+addC x (addS (mulL y m) c 0) 0<18446744073709551616:=by unfold B64 at t1;omega
   have HW:=hid hwr
   have HL:Hid (dk.length=xs.length):=hdl
   have hyy:=hid hy1
   clear hwr hI hdl hx hy hH hY hx1 hy1 hc1 t1 t2
   go_wp2_with (go_at_call 107;refine (Mul64_calls _ _ hyy.out hm64.out _).mono ?_;rintro e w' ⟨rfl,rfl⟩)
   go_roundw
   case rel =>
    refine ⟨k+1,_,n,_,by go_num,?_,by omega,?_,HI.out⟩
    ·go_num
    rw [HW.out,putL_set _ _ _ _ _ _ _ (by rw [HL.out];omega)]
   case measure=>simp [intOf];omega
  ·have hkl:k=bs.length:=by omega
   have HI:Hid (IncT xs bs dk m bs.length c):=by rw [← hkl];exact hI
   have HL:Hid (dk.length=xs.length):=hdl
   clear hkl hI hdl
   go_wp2
   go_ret
   exact ⟨dk,c,n,rfl,rfl,HL.out,HI.out.1.dig,HI.out⟩
theorem decreaseTimes_calls (b o cp b2 o2 cp2 m:Nat) (xs bs:List Nat) (w:World) (hH:HoldsL w b o xs) (hY:Digs w b2 o2 bs) (hne:b2≠b∨o2+bs.length≤o∨o+xs.length≤o2)
  (hl:bs.length≤xs.length) (ha:Dig xs) (hb:Dig bs) (hm:m<B64) (hsz:xs.length≤1099511627776) :
  Calls Tryz.prog 219 #[.slice (some ⟨b,o,none⟩) xs.length cp,.slice (some ⟨b2,o2,none⟩) bs.length cp2,.int .u64 (m:Int)] w
   (RetRow w b o xs.length fun ds c=>DecT xs bs ds m bs.length c):=by
 have h1:=add64_run0
 have h2:=sub64_run0
 have hm64:=hid hm
 clear hm
 go_enter Tryz.func219,Tryz.ntmps219
 go_wp2
 go_loopw [7,14] (fun cv iv wr=>∃ (k c n:Nat) (dk:List Nat),iv=.int .i64 k∧cv=.int .u64 c∧k≤bs.length∧wr=putL w n b o dk∧DecT xs bs dk m k c) (fun _ iv _=>bs.length - (intOf iv).toNat)
 case atStart=>exact ⟨0,0,0,xs,rfl,rfl,by omega,(putL_self w b o xs hH).symm,DecT.start bs m ha⟩
 case round =>
  obtain ⟨k,c,n,dk,rfl,rfl,hk,hwr,hI⟩:=hrel
  have hdl:dk.length=xs.length:=hI.1.len
  by_cases hlt:k<bs.length
  ·obtain ⟨x,hx⟩:∃ x,dk[k]?.getD 0=x:=⟨_,rfl⟩
   obtain ⟨y,hy⟩:∃ y,bs[k]?.getD 0=y:=⟨_,rfl⟩
   have hx1:x<B64:=hx ▸ hI.1.dig.getD k
   have hy1:y<B64:=hy ▸ hb.getD k
   have hc1:c<B64:=hI.2.1
   have cx:wr.cell? ⟨b,o+k,none⟩=some (.int .u64 (x:Int)):=by
    have:=(holdsL_putL w n b o xs dk hH hdl k (by omega)).1
    rw [hwr,this,hx]
   have cy:wr.cell? ⟨b2,o2+k,none⟩=some (.int .u64 (y:Int)):=by
    have:=(hY.putL (q:=n) (b:=b) (o:=o) (xs:=dk) (by omega)) k hlt
    rw [hwr,this,hy]
   have fx:wr.frozen? ⟨b,o+k,none⟩=false:=by
    have:=(hH k (by omega)).2
    rw [hwr,frozen_putL,this]
   have hs1:=addS_lt (mulL y m) c 0
   obtain ⟨t1,t2⟩:=times_borrow (x:=x) hy1 hm64.out hc1 (subS_lt x (addS (mulL y m) c 0) 0) (mul_spec y m) (add_spec (mulL y m) c 0) (sub_spec x (addS (mulL y m) c 0) 0 hx1 hs1 (by omega))
   have HI:=hid (hI.step (s:=subS x (addS (mulL y m) c 0) 0) (by omega) (subS_lt _ _ _) t1 (by rw [hx,hy];exact t2))
   have b1:mulH y m+addC (mulL y m) c 0<18446744073709551616:=by unfold B64 at t1;omega
   have b2:mulH y m+addC (mulL y m) c 0+subC x (addS (mulL y m) c 0) 0<18446744073709551616:=by unfold B64 at t1;omega
   have HW:=hid hwr
   have HL:Hid (dk.length=xs.length):=hdl
   have hyy:=hid hy1
   clear hwr hI hdl hx hy hH hY hx1 hy1 hc1 t1 t2 hs1
   go_wp2_with (go_at_call 107;refine (Mul64_calls _ _ hyy.out hm64.out _).mono ?_;rintro e w' ⟨rfl,rfl⟩)
   go_roundw
   case rel =>
    refine ⟨k+1,_,n,_,by go_num,?_,by omega,?_,HI.out⟩
    ·go_num
    rw [HW.out,putL_set _ _ _ _ _ _ _ (by rw [HL.out];omega)]
   case measure=>simp [intOf];omega
  ·have hkl:k=bs.length:=by omega
   have HI:Hid (DecT xs bs dk m bs.length c):=by rw [← hkl];exact hI
   have HL:Hid (dk.length=xs.length):=hdl
   clear hkl hI hdl
   go_wp2
   go_ret
   exact ⟨dk,c,n,rfl,rfl,HL.out,HI.out.1.dig,HI.out⟩
theorem increaseTimes_callsN (nx nb:Nat) (b o cp b2 o2 cp2 m:Nat) (xs bs:List Nat) (w:World) (hH:HoldsL w b o xs) (hY:Digs w b2 o2 bs) (hne:b2≠b∨o2+bs.length≤o∨o+xs.length≤o2)
  (hl:bs.length≤xs.length) (ha:Dig xs) (hb:Dig bs) (hm:m<B64) (hsz:xs.length≤1099511627776) (hnx:xs.length=nx) (hnb:bs.length=nb) :
  Calls Tryz.prog 164 #[.slice (some ⟨b,o,none⟩) nx cp,.slice (some ⟨b2,o2,none⟩) nb cp2,.int .u64 (m:Int)] w
   (RetRow w b o xs.length fun ds c=>IncT xs bs ds m bs.length c):=by
 subst hnx hnb
 exact increaseTimes_calls b o cp b2 o2 cp2 m xs bs w hH hY hne hl ha hb hm hsz
theorem decreaseTimes_callsN (nx nb:Nat) (b o cp b2 o2 cp2 m:Nat) (xs bs:List Nat) (w:World) (hH:HoldsL w b o xs) (hY:Digs w b2 o2 bs) (hne:b2≠b∨o2+bs.length≤o∨o+xs.length≤o2)
  (hl:bs.length≤xs.length) (ha:Dig xs) (hb:Dig bs) (hm:m<B64) (hsz:xs.length≤1099511627776) (hnx:xs.length=nx) (hnb:bs.length=nb) :
  Calls Tryz.prog 219 #[.slice (some ⟨b,o,none⟩) nx cp,.slice (some ⟨b2,o2,none⟩) nb cp2,.int .u64 (m:Int)] w
   (RetRow w b o xs.length fun ds c=>DecT xs bs ds m bs.length c):=by
 subst hnx hnb
 exact decreaseTimes_calls b o cp b2 o2 cp2 m xs bs w hH hY hne hl ha hb hm hsz
end
section
open Go.RowKit Go.Sort
theorem Tryz.infoU:(Tryz.prog.info? 24).map (fun i=>(i.zero,i.size,i.bytes))=some (some (.int .u64 0),1,8):=by kernel_rfl
theorem Tryz.sizeU:(Tryz.prog.info? 24).map (·.size)=some 1:=by kernel_rfl
def allocZ (w:World) (n:Nat):World:=w.alloc (.cells (madeCells #[.int .u64 0] n) 24)
theorem size_allocZ (w:World) (n:Nat):(allocZ w n).heap.size=w.heap.size+1:=by unfold allocZ;simp
theorem makeN_run (n:Nat) (hn:n≤2199023255552) (w:World) :
  (Instr.makeSlice 26 (.int .i64 (n:Int)) (.int .i64 (n:Int))).run Tryz.prog w=.ok (.slice (some ⟨w.heap.size,0,none⟩) n n) (allocZ w n):=
 run_make_row' 26 24 _ 8 Tryz.underlying26 Tryz.infoU rfl .i64 .i64 n (by omega) (by omega) w
theorem holdsL_allocZ (w:World) (n:Nat):HoldsL (allocZ w n) w.heap.size 0 (List.replicate n 0):=fun j hj=>by
 have hj':j<n:=by simpa using hj
 unfold allocZ
 rw [World.cell?_alloc_at _ _ _ _ rfl,World.frozen?_alloc_at _ _ _ _ rfl]
 refine ⟨?_,rfl⟩
 simp only [madeCells,Nat.zero_add,Array.getElem?_map,List.getElem?_replicate,hj',if_true]
 rw [Array.getElem?_eq_getElem (by simpa using hj')]
 simp [Nat.mod_one]
theorem below_allocZ (w:World) (n:Nat):Below w.heap.size w (allocZ w n):=(Below.refl _ _).alloc (Nat.le_refl _) _
theorem putL_mid (w:World) (q b o k:Nat) (xs ys:List Nat) (h:HoldsL w b o xs) (hl:k+ys.length≤xs.length):putL w q b (o+k) ys=putL w q b o (xs.take k ++ ys ++ xs.drop (k+ys.length)):=by
 unfold putL putRow
 refine mapBlock_congr _ _ _ _ fun c e fr hb=>?_
 apply Array.ext_getElem?
 intro j
 simp only [putCells,Array.getElem?_mapIdx,List.size_toArray,bang_getD]
 have hlen:(xs.take k ++ ys ++ xs.drop (k+ys.length)).length=xs.length:=by simp;omega
 rw [hlen]
 cases hc:c[j]? with
 | none=>rfl
 | some v =>
  simp only [Option.map_some,Option.some.injEq]
  by_cases h1:o≤j∧j<o+xs.length
  ·rw [if_pos h1]
   have hx:=(h (j - o) (by omega)).1
   rw [show o+(j - o)=j by omega] at hx
   have hcell:w.cell? ⟨b,j,none⟩=some v:=by
    have hb':w.heap[b]? = some (.cells c e fr):=hb
    simp [World.cell?,hb',hc]
   rw [hcell] at hx
   have hv:v=E64 (xs[j - o]?.getD 0):=by simpa using hx
   by_cases h2:j - o<k
   ·rw [if_neg (by omega),hv,List.append_assoc,List.getElem?_append_left (by simp;omega),List.getElem?_take_of_lt h2]
   ·by_cases h3:j - o<k+ys.length
    ·rw [if_pos (by omega),List.append_assoc,List.getElem?_append_right (by simp;omega),List.getElem?_append_left (by simp;omega)]
     simp only [List.length_take,Nat.min_eq_left (show k≤xs.length by omega)]
     rw [show j - (o+k)=j - o - k by omega]
    ·rw [if_neg (by omega),hv,List.getElem?_append_right (by simp;omega),List.getElem?_drop]
     simp only [List.length_append,List.length_take,Nat.min_eq_left (show k≤xs.length by omega)]
     rw [show k+ys.length+(j - o - (k+ys.length))=j - o by omega]
  ·rw [if_neg h1,if_neg (by omega)]
theorem putL_eq_setCells (w:World) (b o:Nat) (xs ys:List Nat) (h:HoldsL w b o xs) (hl:ys.length≤xs.length):w.setCells b o (ys.map E64)=putL w 0 b o (ys ++ xs.drop ys.length):=by
 have h1:=putL_mid w 0 b o 0 xs ys h (by omega)
 simp only [Nat.add_zero,List.take_zero,List.nil_append,Nat.zero_add] at h1
 rw [← h1]
 have h2:=Lib.putRow_eq_setCells E64 w b o (xs.take ys.length).toArray ys 0 (holdsL_iff.1 (h.take _)) (by simp;omega)
 exact h2.symm
theorem copyN_run (ty:TypeId) (w:World) (b o n cp b2 o2 cp2:Nat) (xs ys:List Nat) (hx:HoldsL w b o xs) (hy:Digs w b2 o2 ys) (hn:xs.length=n) (hl:ys.length≤n) :
  (Builtin.copy_ #[26,26] ty #[.slice (some ⟨b,o,none⟩) n cp,.slice (some ⟨b2,o2,none⟩) ys.length cp2]).run Tryz.prog w=.ok (goInt ys.length) (putL w 0 b o (ys ++ xs.drop ys.length)):=by
 subst hn
 rw [← putL_eq_setCells w b o xs ys hx hl]
 have:=run_copy_cells (P:=Tryz.prog) w 26 26 ty 24 b o xs.length cp ⟨b2,o2,none⟩ ys.length cp2 (ys.map E64) Tryz.underlying26 Tryz.sizeU (by rw [List.length_map];exact (Nat.min_eq_left hl).symm)
  (fun j v hv=>by
   have hj:j<ys.length:=by have:=(List.getElem?_eq_some_iff.1 hv).1;simpa using this
   rw [List.getElem?_map,List.getElem?_eq_getElem hj] at hv
   simp only [Option.map_some,Option.some.injEq] at hv
   have:=hy j hj
   rw [List.getElem?_eq_getElem hj] at this
   rw [← hv,show (⟨b2,o2,none⟩:Addr).add j=⟨b2,o2+j,none⟩ from by unfold Addr.add;split <;> simp_all]
   exact this)
  (fun j hj=>by rw [(hx j (by simp at hj;omega)).1];rfl) (fun j hj=>(hx j (by simp at hj;omega)).2) (fun v hv=>by
   obtain ⟨y,_,rfl⟩:=List.mem_map.1 hv
   rfl)
 rw [this,List.length_map]
theorem addr_add (b o k:Nat):(⟨b,o,none⟩:Addr).add k=⟨b,o+k,none⟩:=by unfold Addr.add;split <;> simp_all
theorem sliceLo_run (b o n cp k:Nat) (hk:k≤n) (hc:k<cp) (w:World) :
  (Instr.slice 26 (.slice (some ⟨b,o,none⟩) n cp) (some (.int .i64 (k:Int))) none none).run Tryz.prog w=.ok (.slice (some ⟨b,o+k,none⟩) (n - k) (cp - k)) w:=by
 rw [run_slice_l w 26 (some ⟨b,o,none⟩) n cp (by kernel_rfl) .i64 k (by omega) (by omega)]
 simp only [Int.toNat_natCast]
 rw [show (sizeOf (Tryz.prog.elem 26)).run Tryz.prog w=.ok 1 w from by kernel_rfl]
 simp only [Result.andThen,sliced,Nat.mul_one]
 rw [if_neg (by omega),Option.map_some,addr_add]
theorem sliceLhm_run (b o n cp k h m:Nat) (hk:k≤h) (hh:h≤m) (hm:m≤cp) (hc:k<m) (w:World) :
  (Instr.slice 26 (.slice (some ⟨b,o,none⟩) n cp) (some (.int .i64 (k:Int))) (some (.int .i64 (h:Int))) (some (.int .i64 (m:Int)))).run Tryz.prog w=.ok (.slice (some ⟨b,o+k,none⟩) (h - k) (m - k)) w:=by
 rw [run_slice_lhm w 26 (some ⟨b,o,none⟩) n cp (by kernel_rfl) .i64 .i64 .i64 k h m (by omega) (by omega) (by omega) (by omega)]
 simp only [Int.toNat_natCast]
 rw [show (sizeOf (Tryz.prog.elem 26)).run Tryz.prog w=.ok 1 w from by kernel_rfl]
 simp only [Result.andThen,sliced,Nat.mul_one]
 rw [if_neg (by omega),Option.map_some,addr_add]
def RetDigits (w:World) (n:Nat) (e:Ending) (w':World):Prop:=
 ∃ (b o cp:Nat) (ds:List Nat),e=.returned (.slice (some ⟨b,o,none⟩) ds.length cp)∧b<w'.heap.size∧ds.length≤cp∧Dig ds∧Trimmed ds∧val ds=n∧Digs w' b o ds∧Below w.heap.size w w'
theorem RetDigits.mk {w w':World} {b o k n:Nat} {ds:List Nat} (hb:b<w'.heap.size) (hd:Dig ds) (ht:Tail0 ds k) (hv:val ds=n) (hD:Digs w' b o ds) (hB:Below w.heap.size w w'):RetDigits w n (.returned (.slice (some ⟨b,o,none⟩) k k)) w':=by
 have hl:(ds.take k).length=k:=by rw [List.length_take];exact Nat.min_eq_left ht.1
 refine ⟨b,o,k,ds.take k,by rw [hl],hb,by omega,hd.take k,ht.trimmed,by rw [ht.val,hv],fun j hj=>?_,hB⟩
 rw [List.getElem?_take_of_lt (by omega)]
 exact hD j (by rw [hl] at hj;have:=ht.1;omega)
theorem plus_calls1 (nx ny b o cp b2 o2 cp2:Nat) (xs ys:List Nat) (w:World) (hx:Digs w b o xs) (hy:Digs w b2 o2 ys) (hb:b<w.heap.size) (hb2:b2<w.heap.size) (dx:Dig xs) (dy:Dig ys) (hsx:xs.length≤549755813888) (hsy:ys.length≤xs.length) (hnx:xs.length=nx) (hny:ys.length=ny) :
  Calls Tryz.prog 154 #[.slice (some ⟨b,o,none⟩) nx cp,.slice (some ⟨b2,o2,none⟩) ny cp2] w (RetDigits w (val xs+val ys)):=by
 subst hnx hny
 have hmk:=makeN_run (xs.length+1) (by omega)
 rw [show ((xs.length+1:Nat):Int)=(xs.length:Int)+1 from by omega] at hmk
 have hcp:=copyN_run 3 (allocZ w (xs.length+1)) w.heap.size 0 (xs.length+1) (xs.length+1) b o cp _ xs (holdsL_allocZ w (xs.length+1)) (hx.below (below_allocZ w _) hb) (by simp) (by omega)
 have hZ:=holdsL_allocZ w (xs.length+1)
 have e1:(List.replicate (xs.length+1) 0).drop xs.length=[0]:=by rw [List.drop_replicate,Nat.add_sub_cancel_left];rfl
 have HH:Hid (HoldsL (putL (allocZ w (xs.length+1)) 0 w.heap.size 0 (xs ++ [0])) w.heap.size 0 (xs ++ [0])):=holdsL_putL _ _ _ _ _ _ hZ (by simp)
 have HY:Hid (Digs (putL (allocZ w (xs.length+1)) 0 w.heap.size 0 (xs ++ [0])) b2 o2 ys):=(hy.below (below_allocZ w _) hb2).putL (by left;omega)
 have HZ:=hid hZ
 rw [e1] at hcp
 clear e1 hZ hx hy
 go_enter Tryz.func154,Tryz.ntmps154
 go_wp2_with fail
 refine (increase_callsN _ _ w.heap.size 0 _ b2 o2 cp2 (xs ++ [0]) ys _ HH.out HY.out (by left;omega) (by simp;omega) (dx.append (fun d hd=>by simp at hd;subst hd;exact B64_pos)) dy (by simp;omega) (by simp) rfl).mono ?_
 rintro e w' ⟨ds,c,q,rfl,rfl,hl,hd,hv⟩
 rw [putL_putL _ _ _ _ _ _ _ (by simpa using hl),Nat.zero_add]
 have HL:=hid hl
 have hl1:ds.length=xs.length+1:=by simpa using hl
 have HV:=hid hv
 have HD:Hid (HoldsL (putL (allocZ w (xs.length+1)) q w.heap.size 0 ds) w.heap.size 0 ds):=holdsL_putL _ _ _ _ _ _ HZ.out (by simpa using hl1)
 have HL1:=hid hl1
 clear hl hv hl1 hcp hmk
 go_wp2_with fail
 refine (trim_callsN _ w.heap.size 0 _ ds _ HD.out.digs (by rw [HL1.out];omega) (by rw [HL1.out];exact Nat.le_refl _) HL1.out).mono ?_
 rintro e w' ⟨k,rfl,ht,rfl⟩
 have HT:=hid ht
 clear ht
 go_wp2
 go_ret
 refine RetDigits.mk (by simp [size_allocZ]) hd HT.out ?_ HD.out.digs ((below_allocZ w _).trans (below_putL _ _ _ _ _ (Nat.le_refl _)))
 have h1:=HV.out
 have h2:=val_lt dx
 have h3:=val_lt dy
 have h4:B64 ^ ys.length≤B64 ^ xs.length:=Nat.pow_le_pow_right B64_pos hsy
 have h5:val (xs ++ [0])=val xs:=by rw [val_snoc];omega
 rw [h5] at h1
 have h6:(xs ++ [0]).length=xs.length+1:=by simp
 rw [h6,Nat.pow_succ] at h1
 have h7:2*B64 ^ xs.length≤B64 ^ xs.length*B64:=by rw [Nat.mul_comm];exact Nat.mul_le_mul_left _ (by decide)
 rcases Nat.eq_zero_or_pos c with h0 | h0
 ·subst h0;omega
 ·have:1*(B64 ^ xs.length*B64)≤c*(B64 ^ xs.length*B64):=Nat.mul_le_mul_right _ h0
  omega
theorem plus_calls2 (nx ny b o cp b2 o2 cp2:Nat) (xs ys:List Nat) (w:World) (hx:Digs w b o xs) (hy:Digs w b2 o2 ys) (hb:b<w.heap.size) (hb2:b2<w.heap.size) (dx:Dig xs) (dy:Dig ys) (hsx:ys.length≤549755813888) (hsy:xs.length<ys.length) (hnx:xs.length=nx) (hny:ys.length=ny) :
  Calls Tryz.prog 154 #[.slice (some ⟨b,o,none⟩) nx cp,.slice (some ⟨b2,o2,none⟩) ny cp2] w (RetDigits w (val xs+val ys)):=by
 subst hnx hny
 have hle:xs.length≤ys.length:=by omega
 have hmk:=makeN_run (ys.length+1) (by omega)
 rw [show ((ys.length+1:Nat):Int)=(ys.length:Int)+1 from by omega] at hmk
 have hcp:=copyN_run 3 (allocZ w (ys.length+1)) w.heap.size 0 (ys.length+1) (ys.length+1) b2 o2 cp2 _ ys (holdsL_allocZ w (ys.length+1)) (hy.below (below_allocZ w _) hb2) (by simp) (by omega)
 have hZ:=holdsL_allocZ w (ys.length+1)
 have e1:(List.replicate (ys.length+1) 0).drop ys.length=[0]:=by rw [List.drop_replicate,Nat.add_sub_cancel_left];rfl
 have HH:Hid (HoldsL (putL (allocZ w (ys.length+1)) 0 w.heap.size 0 (ys ++ [0])) w.heap.size 0 (ys ++ [0])):=holdsL_putL _ _ _ _ _ _ hZ (by simp)
 have HY:Hid (Digs (putL (allocZ w (ys.length+1)) 0 w.heap.size 0 (ys ++ [0])) b o xs):=(hx.below (below_allocZ w _) hb).putL (by left;omega)
 have HZ:=hid hZ
 rw [e1] at hcp
 clear e1 hZ hy hx
 go_enter Tryz.func154,Tryz.ntmps154
 go_wp2_with fail
 refine (increase_callsN _ _ w.heap.size 0 _ b o cp (ys ++ [0]) xs _ HH.out HY.out (by left;omega) (by simp;omega) (dy.append (fun d hd=>by simp at hd;subst hd;exact B64_pos)) dx (by simp;omega) (by simp) rfl).mono ?_
 rintro e w' ⟨ds,c,q,rfl,rfl,hl,hd,hv⟩
 rw [putL_putL _ _ _ _ _ _ _ (by simpa using hl),Nat.zero_add]
 have HL:=hid hl
 have hl1:ds.length=ys.length+1:=by simpa using hl
 have HV:=hid hv
 have HD:Hid (HoldsL (putL (allocZ w (ys.length+1)) q w.heap.size 0 ds) w.heap.size 0 ds):=holdsL_putL _ _ _ _ _ _ HZ.out (by simpa using hl1)
 have HL1:=hid hl1
 clear hl hv hl1 hcp hmk
 go_wp2_with fail
 refine (trim_callsN _ w.heap.size 0 _ ds _ HD.out.digs (by rw [HL1.out];omega) (by rw [HL1.out];exact Nat.le_refl _) HL1.out).mono ?_
 rintro e w' ⟨k,rfl,ht,rfl⟩
 have HT:=hid ht
 clear ht
 go_wp2
 go_ret
 refine RetDigits.mk (by simp [size_allocZ]) hd HT.out ?_ HD.out.digs ((below_allocZ w _).trans (below_putL _ _ _ _ _ (Nat.le_refl _)))
 have h1:=HV.out
 have h2:=val_lt dy
 have h3:=val_lt dx
 have h4:B64 ^ xs.length≤B64 ^ ys.length:=Nat.pow_le_pow_right B64_pos hle
 have h5:val (ys ++ [0])=val ys:=by rw [val_snoc];omega
 rw [h5] at h1
 have h6:(ys ++ [0]).length=ys.length+1:=by simp
 rw [h6,Nat.pow_succ] at h1
 have h7:2*B64 ^ ys.length≤B64 ^ ys.length*B64:=by rw [Nat.mul_comm];exact Nat.mul_le_mul_left _ (by decide)
 rcases Nat.eq_zero_or_pos c with h0 | h0
 ·subst h0;omega
 ·have:1*(B64 ^ ys.length*B64)≤c*(B64 ^ ys.length*B64):=Nat.mul_le_mul_right _ h0
  omega
theorem plus_calls (nx ny b o cp b2 o2 cp2:Nat) (xs ys:List Nat) (w:World) (hx:Digs w b o xs) (hy:Digs w b2 o2 ys) (hb:b<w.heap.size) (hb2:b2<w.heap.size) (dx:Dig xs) (dy:Dig ys) (hsx:xs.length≤549755813888) (hsy:ys.length≤549755813888) (hnx:xs.length=nx) (hny:ys.length=ny) :
  Calls Tryz.prog 154 #[.slice (some ⟨b,o,none⟩) nx cp,.slice (some ⟨b2,o2,none⟩) ny cp2] w (RetDigits w (val xs+val ys)):=by
 rcases Nat.lt_or_ge xs.length ys.length with h | h
 ·exact plus_calls2 nx ny b o cp b2 o2 cp2 xs ys w hx hy hb hb2 dx dy hsy h hnx hny
 ·exact plus_calls1 nx ny b o cp b2 o2 cp2 xs ys w hx hy hb hb2 dx dy hsx h hnx hny
theorem minus_calls (nx ny b o cp b2 o2 cp2:Nat) (xs ys:List Nat) (w:World) (hx:Digs w b o xs) (hy:Digs w b2 o2 ys) (hb:b<w.heap.size) (hb2:b2<w.heap.size) (dx:Dig xs) (dy:Dig ys) (hsx:xs.length≤549755813888) (hsy:ys.length≤xs.length) (hv:val ys≤val xs) (hnx:xs.length=nx) (hny:ys.length=ny) :
  Calls Tryz.prog 155 #[.slice (some ⟨b,o,none⟩) nx cp,.slice (some ⟨b2,o2,none⟩) ny cp2] w (RetDigits w (val xs - val ys)):=by
 subst hnx hny
 have hmk:=makeN_run xs.length (by omega)
 have hcp:=copyN_run 3 (allocZ w xs.length) w.heap.size 0 xs.length xs.length b o cp _ xs (holdsL_allocZ w xs.length) (hx.below (below_allocZ w _) hb) (by simp) (by omega)
 have hZ:=holdsL_allocZ w xs.length
 have e1:(List.replicate xs.length 0).drop xs.length=([]:List Nat):=by rw [List.drop_replicate,Nat.sub_self];rfl
 have HH:Hid (HoldsL (putL (allocZ w xs.length) 0 w.heap.size 0 xs) w.heap.size 0 xs):=holdsL_putL _ _ _ _ _ _ hZ (by simp)
 have HY:Hid (Digs (putL (allocZ w xs.length) 0 w.heap.size 0 xs) b2 o2 ys):=(hy.below (below_allocZ w _) hb2).putL (by left;omega)
 have HZ:=hid hZ
 rw [e1,List.append_nil] at hcp
 clear e1 hZ hx hy
 go_enter Tryz.func155,Tryz.ntmps155
 go_wp2_with fail
 refine (decrease_callsN _ _ w.heap.size 0 _ b2 o2 cp2 xs ys _ HH.out HY.out (by left;omega) hsy dx dy hv (by omega) rfl rfl).mono ?_
 rintro e w' ⟨ds,q,rfl,rfl,hl,hd,hv2⟩
 rw [putL_putL _ _ _ _ _ _ _ hl,Nat.zero_add]
 have HV:=hid hv2
 have HD:Hid (HoldsL (putL (allocZ w xs.length) q w.heap.size 0 ds) w.heap.size 0 ds):=holdsL_putL _ _ _ _ _ _ HZ.out (by simpa using hl)
 have HL1:=hid hl
 clear hl hv2 hcp hmk
 go_wp2_with fail
 refine (trim_callsN _ w.heap.size 0 _ ds _ HD.out.digs (by rw [HL1.out];omega) (by rw [HL1.out];exact Nat.le_refl _) HL1.out).mono ?_
 rintro e w' ⟨k,rfl,ht,rfl⟩
 have HT:=hid ht
 clear ht
 go_wp2
 go_ret
 exact RetDigits.mk (by simp [size_allocZ]) hd HT.out (by have:=HV.out;omega) HD.out.digs ((below_allocZ w _).trans (below_putL _ _ _ _ _ (Nat.le_refl _)))
end
section
open Go.RowKit Go.Sort
def Prod (xs ys pk:List Nat) (k:Nat):Prop:=pk.length=xs.length+ys.length∧Dig pk∧(∀ j:Nat,k+xs.length≤j→pk[j]?.getD 0=0)∧val pk=val xs*val (ys.take k)
theorem Prod.start (xs ys:List Nat):Prod xs ys (List.replicate (xs.length+ys.length) 0) 0:=by
 refine ⟨by simp,fun d hd=>by rw [List.eq_of_mem_replicate hd];exact B64_pos,fun j _=>?_,by rw [val_zeros];simp [val_nil]⟩
 rw [List.getElem?_replicate]
 split <;> rfl
theorem Prod.step {xs ys pk ds:List Nat} {k y c:Nat} (h:Prod xs ys pk k) (hk:k<ys.length) (hy:ys[k]?.getD 0=y) (hds:IncT (pk.drop k) xs ds y xs.length c) :
  Prod xs ys ((pk.take k ++ ds).set (k+xs.length) c) (k+1):=by
 obtain ⟨hl,hd,hz,hv⟩:=h
 obtain ⟨hp,hc,hs⟩:=hds
 have hdl:ds.length=xs.length+ys.length - k:=by rw [hp.len,List.length_drop,hl]
 have htk:(pk.take k).length=k:=by rw [List.length_take];omega
 have hlen:(pk.take k ++ ds).length=xs.length+ys.length:=by rw [List.length_append,htk,hdl];omega
 have ez:∀ j:Nat,(ds.drop xs.length)[j]?.getD 0=0:=fun j=>by
  rw [hp.rest,List.getElem?_drop,List.getElem?_drop]
  exact hz _ (by omega)
 refine ⟨by rw [List.length_set,hlen],((hd.take k).append hp.dig).set _ hc,fun j hj=>?_,?_⟩
 ·rw [List.getElem?_set_ne (by omega),List.getElem?_append_right (by rw [htk];omega),htk]
  have:=ez (j - k - xs.length)
  rw [List.getElem?_drop] at this
  rwa [show xs.length+(j - k - xs.length)=j - k by omega] at this
 ·have e1:(pk.take k ++ ds).set (k+xs.length) c=pk.take k ++ ds.set xs.length c:=by
   rw [List.set_append_right _ _ (by rw [htk];omega),htk,Nat.add_sub_cancel_left]
  have e2:val (ds.set xs.length c)=val (ds.take xs.length)+B64 ^ xs.length*c:=by
   rw [val_split (ds.set xs.length c) (xs.length+1) (by rw [List.length_set];omega),val_set_take ds xs.length c (by omega),drop_set_succ,val_of_zeros (ds.drop (xs.length+1)) (fun j=>by
    have:=ez (j+1)
    rw [List.getElem?_drop] at this ⊢
    rwa [show xs.length+(j+1)=xs.length+1+j by omega] at this)]
   omega
  have e3:val (pk.drop k)=val ((pk.drop k).take xs.length):=by
   rw [val_split (pk.drop k) xs.length (by rw [List.length_drop];omega),val_of_zeros ((pk.drop k).drop xs.length) (fun j=>by
    rw [List.getElem?_drop,List.getElem?_drop]
    exact hz _ (by omega))]
   omega
  have e4:val (pk.take k)+B64 ^ k*val ((pk.drop k).take xs.length)=val xs*val (ys.take k):=by rw [← e3,← hv,← val_split pk k (by omega)]
  rw [e1,val_append,htk,e2,val_take_getD ys k,hy]
  rw [List.take_of_length_le (Nat.le_refl xs.length)] at hs
  generalize val (ys.take k)=Y at *
  generalize val (pk.take k)=E at *
  generalize val (ds.take xs.length)=A at *
  generalize val ((pk.drop k).take xs.length)=C at *
  generalize val xs=X at *
  generalize B64 ^ xs.length=P at *
  generalize B64 ^ k=Q at *
  have:Q*(A+c*P)=Q*(C+y*X):=by rw [hs]
  grind
theorem times_world {w wr:World} {q k q1 b2 o2 y:Nat} {xs ys pk ds:List Nat} (hb2:b2<w.heap.size) (hZ:HoldsL (allocZ w (xs.length+ys.length)) w.heap.size 0 (List.replicate (xs.length+ys.length) 0))
  (hW:wr=putL (allocZ w (xs.length+ys.length)) q w.heap.size 0 pk) (hH:HoldsL wr w.heap.size 0 pk) (hpl:pk.length=xs.length+ys.length) (hk:k<ys.length) (hl:ds.length=(pk.drop k).length)
  (cy:wr.cell? ⟨b2,o2+k,none⟩=some (.int .u64 (y:Int))) :
  ∃ W2,putL wr.drew q1 w.heap.size k ds=W2∧Hid (W2=putL (allocZ w (xs.length+ys.length)) (q+(1+q1)) w.heap.size 0 (pk.take k ++ ds))∧HoldsL W2 w.heap.size 0 (pk.take k ++ ds)∧W2.cell? ⟨b2,o2+k,none⟩=some (.int .u64 (y:Int)):=by
 have hdl:ds.length=xs.length+ys.length - k:=by rw [hl,List.length_drop,hpl]
 have hlen:(pk.take k ++ ds).length=pk.length:=by rw [List.length_append,List.length_take];omega
 have e:putL wr.drew q1 w.heap.size k ds=putL (allocZ w (xs.length+ys.length)) (q+(1+q1)) w.heap.size 0 (pk.take k ++ ds):=by
  have h1:=putL_mid wr.drew q1 w.heap.size 0 k pk ds hH (by omega)
  rw [Nat.zero_add] at h1
  rw [h1,List.drop_of_length_le (by omega),List.append_nil,hW,putL_drew,putL_putL _ _ _ _ _ _ _ hlen,Nat.add_assoc]
 refine ⟨_,rfl,e,?_,?_⟩
 ·rw [e];exact holdsL_putL _ _ _ _ _ _ hZ (by rw [hlen,hpl];simp)
 ·rw [cell_putL_other _ _ _ _ _ _ (by left;simp only;omega)];exact cy
theorem times_cell {W:World} {B k:Nat} {xs ys pk ds:List Nat} (hk:k<ys.length) (hpl:pk.length=xs.length+ys.length) (hl:ds.length=(pk.drop k).length) (h:HoldsL W B 0 (pk.take k ++ ds)) :
  ∃ z:Nat,W.cell? ⟨B,k+xs.length,none⟩=some (.int .u64 (z:Int))∧W.frozen? ⟨B,k+xs.length,none⟩=false:=by
 have:=h (k+xs.length) (by rw [List.length_append,List.length_take,hl,List.length_drop,hpl];omega)
 rw [Nat.zero_add] at this
 exact ⟨_,this.1,this.2⟩
theorem times_calls (nx ny b o cp b2 o2 cp2:Nat) (xs ys:List Nat) (w:World) (hx:Digs w b o xs) (hy:Digs w b2 o2 ys) (hb:b<w.heap.size) (hb2:b2<w.heap.size) (dx:Dig xs) (dy:Dig ys) (hsx:xs.length≤549755813888) (hsy:ys.length≤549755813888) (hnx:xs.length=nx) (hny:ys.length=ny) :
  Calls Tryz.prog 109 #[.slice (some ⟨b,o,none⟩) nx cp,.slice (some ⟨b2,o2,none⟩) ny cp2] w (RetDigits w (val xs*val ys)):=by
 subst hnx hny
 have hmk:=makeN_run (xs.length+ys.length) (by omega)
 rw [show ((xs.length+ys.length:Nat):Int)=(xs.length:Int)+(ys.length:Int) from by omega] at hmk
 have hZ:=holdsL_allocZ w (xs.length+ys.length)
 have HX:Hid (Digs (allocZ w (xs.length+ys.length)) b o xs):=hx.below (below_allocZ w _) hb
 have HY:Hid (Digs (allocZ w (xs.length+ys.length)) b2 o2 ys):=hy.below (below_allocZ w _) hb2
 have HZ:=hid hZ
 clear hZ hx hy
 go_enter Tryz.func109,Tryz.ntmps109
 go_wp2
 go_loopw [15] (fun iv wr=>∃ (k q:Nat) (pk:List Nat),iv=.int .i64 k∧k≤ys.length∧wr=putL (allocZ w (xs.length+ys.length)) q w.heap.size 0 pk∧Prod xs ys pk k) (fun iv _=>ys.length - (intOf iv).toNat)
 case atStart=>exact ⟨0,0,_,rfl,by omega,(putL_self _ _ _ _ HZ.out).symm,Prod.start xs ys⟩
 case round =>
  clear hmk
  obtain ⟨k,q,pk,rfl,hk,hwr,hP⟩:=hrel
  have hpl:=hP.1
  have hH:HoldsL wr w.heap.size 0 pk:=by rw [hwr];exact holdsL_putL _ _ _ _ _ _ HZ.out (by simpa using hpl)
  by_cases hlt:k<ys.length
  ·obtain ⟨y,hyk⟩:∃ y,ys[k]?.getD 0=y:=⟨_,rfl⟩
   have cy:wr.cell? ⟨b2,o2+k,none⟩=some (.int .u64 (y:Int)):=by
    have:=(HY.out.putL (q:=q) (b:=w.heap.size) (o:=0) (xs:=pk) (by omega)) k hlt
    rw [hwr,this,hyk]
   have HXw:Hid (Digs wr b o xs):=by rw [hwr];exact HX.out.putL (by omega)
   have HH:=hid hH
   have HP:=hid hP
   have HW:=hid hwr
   have HPL:=hid hpl
   have HYK:=hid hyk
   have hy1:Hid (y<B64):=by rw [← hyk];exact dy.getD k
   clear hwr hP hpl hyk hH
   have hsl:=sliceLo_run w.heap.size 0 (xs.length+ys.length) (xs.length+ys.length) k (by omega) (by omega)
   rw [Nat.zero_add] at hsl
   have hHd:HoldsL wr.drew w.heap.size k (pk.drop k):=by have:=HH.out.drop k;rw [Nat.zero_add] at this;exact this
   have HHd:=hid hHd
   have ew:IntKind.i64.wrap ((k:Int)+(xs.length:Int))=(k:Int)+(xs.length:Int):=IntWalk.i64_in _ (by omega)
   have en:((k:Int)+(xs.length:Int)).toNat=k+xs.length:=by omega
   have e0:(0:Int)≤(k:Int)+(xs.length:Int):=by omega
   have e1:(k:Int)+(xs.length:Int)<(xs.length:Int)+(ys.length:Int):=by omega
   have hnb:¬ w.heap.size=b2:=by omega
   clear hHd
   go_wp2
   go_region_held3 (fun w'=>w'.cell? ⟨b2,o2+k,none⟩=some (.int .u64 (y:Int))) (go_keep)
    (first | (go_at_call 164;refine (increaseTimes_callsN _ _ w.heap.size k _ b o cp y (pk.drop k) xs _ HHd.out HXw.out (by omega) (by rw [List.length_drop,HPL.out];omega) (HP.out.2.1.drop k) dx hy1.out (by rw [List.length_drop,HPL.out];omega) (by rw [List.length_drop,HPL.out]) rfl).mono ?_;rintro e w' ⟨ds,c,q1,rfl,rfl,hl,hd,hv⟩;obtain ⟨W2,hW2,HW2,HH2,cy2⟩:=times_world hb2 HZ.out HW.out HH.out HPL.out hlt hl cy;rw [hW2];obtain ⟨z,cz,fz⟩:=times_cell hlt HPL.out hl HH2;have HV:=hid hv;have HLL:=hid hl;have HH3:=hid HH2;clear hv hl HH2 hW2))
   clear ew en e0 e1
   go_wp2
   go_roundw
   case rel =>
    have hset:=putL_set (allocZ w (xs.length+ys.length)) (q+(1+q1)) w.heap.size 0 (pk.take k ++ ds) (k+xs.length) c (by rw [List.length_append,List.length_take,HLL.out,List.length_drop,HPL.out];omega)
    rw [Nat.zero_add] at hset
    exact ⟨k+1,_,_,by go_num,by omega,by rw [HW2.out];exact hset,HP.out.step hlt HYK.out HV.out⟩
   case measure=>simp [intOf];omega
  ·have hkl:k=ys.length:=by omega
   have HV:Hid (val pk=val xs*val ys):=by have:=hP.2.2.2;rw [hkl,val_take_all] at this;exact this
   have HH:=hid hH
   have HD:=hid hP.2.1
   have HPL:=hid hpl
   have HW:=hid hwr
   clear hkl hP hpl hwr hH
   go_wp2_with fail
   refine (trim_callsN _ w.heap.size 0 _ pk _ HH.out.digs (by rw [HPL.out];omega) (by rw [HPL.out];exact Nat.le_refl _) HPL.out).mono ?_
   rintro e w' ⟨n,rfl,ht,rfl⟩
   have HT:=hid ht
   clear ht
   go_wp2
   go_ret
   refine RetDigits.mk (by rw [HW.out];simp [size_allocZ]) HD.out HT.out HV.out HH.out.digs ?_
   rw [HW.out]
   exact (below_allocZ w _).trans (below_putL _ _ _ _ _ (Nat.le_refl _))
end
end Go.Proofs.YtmijlcldmefggaaGreatDoor
